package event

import (
	"niblick/api"
	"niblick/card"
)

// first returns the first error that is one.
func first(l ...api.Errno) api.Errno {
	for _, e := range l {
		if e != api.OK {
			return e
		}
	}
	return api.OK
}

// unless returns an error unless something is right.
func unless(right bool, e api.Errno) api.Errno {
	if right {
		return api.OK
	}
	return e
}

// within returns the error of an integer that is not between two others.
func within(n, least, most int) api.Errno {
	return unless(least <= n && n <= most, api.ErrRange)
}

// checkAll returns the error of a list that is too long, or that of its first element with one.
func checkAll[T any](l []T, most int, check func(x T) api.Errno) api.Errno {
	if len(l) > most {
		return api.ErrMany
	}
	for _, x := range l {
		if e := check(x); e != api.OK {
			return e
		}
	}
	return api.OK
}

// seen is what stood in a list so far.
type seen[T comparable] map[T]bool

// check returns the error of what stood in the list before; from now on it did.
func (s seen[T]) check(x T) api.Errno {
	if s[x] {
		return api.ErrTwice
	}
	s[x] = true
	return api.OK
}

func checkName(name string) api.Errno {
	return unless(card.IsName(name), api.ErrName)
}

// CheckEntries returns the first error of entries, or OK.
func CheckEntries(l []Entry) api.Errno {
	taken := seen[string]{}
	return checkAll(l, api.MaxPlayers, func(x Entry) api.Errno {
		return first(checkName(x.Player), taken.check(x.Player), checkIndex(x.Index))
	})
}

func checkIndex(index api.Rat) api.Errno {
	x, e := card.Read(index)
	return first(e, unless(
		x.Compare(card.Integer(leastIndex)) >= 0 && x.Compare(card.Integer(mostIndex)) <= 0,
		api.ErrRange))
}

// checkPlaces returns the error of the number of those who are accepted, or who qualify.
func checkPlaces(places int) api.Errno {
	return within(places, 0, api.MaxPlayers)
}

func checkKey(key int) api.Errno {
	return within(key, 1, modulus-1)
}

func checkTotals(totals []int) api.Errno {
	return checkAll(totals, api.MaxPlayers, func(total int) api.Errno {
		return within(total, -api.MaxNumber, api.MaxNumber)
	})
}

// checkSubstitutes returns the first error of those who are in, the reserves, and those who are gone.
func checkSubstitutes(in, reserves, gone []int) api.Errno {
	known, left := seen[int]{}, seen[int]{}
	fresh := func(n int) api.Errno {
		return first(unless(n >= 0, api.ErrRange), known.check(n))
	}
	return first(
		checkAll(in, api.MaxPlayers, fresh),
		checkAll(reserves, api.MaxPlayers, fresh),
		checkAll(gone, api.MaxPlayers, func(n int) api.Errno {
			return first(unless(known[n], api.ErrUnknown), left.check(n))
		}))
}

func checkPlayers(players []string) api.Errno {
	taken := seen[string]{}
	return first(
		unless(len(players) > 0, api.ErrEmpty),
		checkAll(players, api.MaxPlayers, func(player string) api.Errno {
			return first(checkName(player), taken.check(player))
		}))
}

// checkRound returns the first error of the slots of a round, and of those who lose in it.
func checkRound(slots, losers []string) api.Errno {
	if !isFull(len(slots)) {
		return api.ErrShape
	}
	taken, lost := seen[string]{}, seen[string]{}
	return first(
		checkAll(slots, maxSlots, func(slot string) api.Errno {
			if slot == bye {
				return api.OK
			}
			return first(checkName(slot), taken.check(slot))
		}),
		checkAll(losers, len(losers), func(loser string) api.Errno {
			return first(unless(taken[loser], api.ErrUnknown), lost.check(loser))
		}))
}

// isFull reports whether so many slots can be those of a round.
func isFull(slots int) bool {
	return 2 <= slots && slots <= maxSlots && slots&(slots-1) == 0
}

// CheckField returns the first error of a field, or OK.
func CheckField(l []Line) api.Errno {
	taken := seen[string]{}
	return checkAll(l, api.MaxPlayers, func(line Line) api.Errno {
		return first(
			checkName(line.Player),
			taken.check(line.Player),
			checkAll(line.Scores, maxRounds, checkScore),
			checkState(line.State))
	})
}

func checkScore(score int) api.Errno {
	return within(score, 1, maxScore)
}

func checkState(state string) api.Errno {
	switch state {
	case playing, cut, out, dis:
		return api.OK
	}
	return api.ErrKind
}

func (r Rule) check() api.Errno {
	return first(
		within(r.After, 1, maxRounds),
		within(r.Places, 1, api.MaxPlayers),
		within(r.Within, nobody, maxWithin))
}

func checkPurse(purse []int) api.Errno {
	before := api.MaxNumber
	e := checkAll(purse, api.MaxPlayers, func(amount int) api.Errno {
		e := first(within(amount, 0, api.MaxNumber), unless(amount <= before, api.ErrOrder))
		before = amount
		return e
	})
	return first(e, unless(sumOf(purse) <= api.MaxNumber, api.ErrLarge))
}
