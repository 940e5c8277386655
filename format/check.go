package format

import (
	"niblick/api"
	"niblick/card"
)

// first returns the first error that is one.
func first(l ...api.Errno) api.Errno {
	for _, e := range l {
		if e != api.OK {
			return e
		}
	}
	return api.OK
}

// unless returns an error unless something is right.
func unless(right bool, e api.Errno) api.Errno {
	if right {
		return api.OK
	}
	return e
}

// within returns the error of an integer that is not between two others.
func within(n, least, most int) api.Errno {
	return unless(least <= n && n <= most, api.ErrRange)
}

// eachWithin returns the error of the first integer that is not between two others.
func eachWithin(l []int, least, most int) api.Errno {
	for _, n := range l {
		if e := within(n, least, most); e != api.OK {
			return e
		}
	}
	return api.OK
}

// sized returns the error of a list without elements, or with too many.
func sized[T any](l []T, most int) api.Errno {
	return first(unless(len(l) > 0, api.ErrEmpty), unless(len(l) <= most, api.ErrMany))
}

func checkHandicap(handicap int) api.Errno {
	return within(handicap, -MaxHandicap, MaxHandicap)
}

// CheckPlayer returns the first error of a player, or OK.
func CheckPlayer(h []api.Hole, p Player) api.Errno {
	return first(card.CheckHoles(h), card.CheckCard(h, p.Card), checkHandicap(p.Handicap))
}

// CheckField returns the first error of a field, or OK.
func CheckField(f Field) api.Errno {
	return first(
		card.CheckHoles(f.Holes),
		unless(len(f.Players) <= api.MaxPlayers, api.ErrMany),
		checkPlayers(f.Holes, f.Players...))
}

// checkPlayers returns the error of the first player who has one, or the name of another one before.
func checkPlayers(h []api.Hole, l ...Player) api.Errno {
	taken := map[string]bool{}
	for _, p := range l {
		name := p.Card.Player
		if e := first(CheckPlayer(h, p), unless(!taken[name], api.ErrTwice)); e != api.OK {
			return e
		}
		taken[name] = true
	}
	return api.OK
}

// checkNets returns the error of net strokes.
func checkNets(l []Net) api.Errno {
	if e := sized(l, api.MaxHoles); e != api.OK {
		return e
	}
	for _, n := range l {
		if e := n.check(); e != api.OK {
			return e
		}
	}
	return api.OK
}

func (n Net) check() api.Errno {
	switch n.Mark {
	case counting:
		return within(n.Strokes, -maxNet, maxNet)
	case picked, unplayed:
		return within(n.Strokes, 0, 0)
	}
	return api.ErrKind
}

// checkNumbers returns the error of a list of at most so many numbers.
func checkNumbers(l []int, most int) api.Errno {
	return first(sized(l, most), eachWithin(l, -maxScore, maxScore))
}

// checkLists returns the error of the first list that has one, or not as many numbers as the first list.
func checkLists(l [][]int, check func(numbers []int) api.Errno) api.Errno {
	for _, numbers := range l {
		if e := first(check(numbers), unless(len(numbers) == len(l[0]), api.ErrShape)); e != api.OK {
			return e
		}
	}
	return api.OK
}
