package strategy

import (
	"slices"
	"strconv"

	"niblick/api"
	"niblick/card"
)

const (
	maxMoves   = 32
	maxPenalty = 9
)

// firstError returns the first error that is one.
func firstError(l ...api.Errno) api.Errno {
	for _, e := range l {
		if e != api.OK {
			return e
		}
	}
	return api.OK
}

// unless returns an error unless something is right.
func unless(right bool, e api.Errno) api.Errno {
	if right {
		return api.OK
	}
	return e
}

// within returns the error of an integer that is not between two others.
func within(n, least, most int) api.Errno {
	return unless(least <= n && n <= most, api.ErrRange)
}

// paired returns the error of two lists that do not have as many elements.
func paired[A, B any](a []A, b []B) api.Errno {
	return unless(len(a) == len(b), api.ErrShape)
}

// known returns the error of a number that no element of a list has.
func known[T any](n int, l []T) api.Errno {
	return unless(0 <= n && n < len(l), api.ErrUnknown)
}

// checkEach returns the error of the first element with one.
func checkEach[T any](l []T, check func(i int, x T) api.Errno) api.Errno {
	for i, x := range l {
		if e := check(i, x); e != api.OK {
			return e
		}
	}
	return api.OK
}

// checkUpTo returns the error of a list that is too long, or that of its first element with one.
func checkUpTo[T any](l []T, most int, check func(i int, x T) api.Errno) api.Errno {
	if len(l) > most {
		return api.ErrMany
	}
	return checkEach(l, check)
}

// checkSome returns the error of a list that is empty or too long, or that of its first element with one.
func checkSome[T any](l []T, most int, check func(i int, x T) api.Errno) api.Errno {
	return firstError(unless(len(l) > 0, api.ErrEmpty), checkUpTo(l, most, check))
}

// checkName returns the error of the name of an element: that it is none, or that of an earlier element.
func checkName[T any](l []T, i int, name func(x T) string) api.Errno {
	own := name(l[i])
	twice := slices.ContainsFunc(l[:i], func(other T) bool { return name(other) == own })
	return firstError(unless(card.IsName(own), api.ErrName), unless(!twice, api.ErrTwice))
}

// CheckProcess returns the first error of a process, or OK.
func CheckProcess(p Process) api.Errno {
	return checkSome(p.States, api.MaxStates, func(i int, s State) api.Errno {
		return firstError(
			checkName(p.States, i, func(s State) string { return s.Name }),
			p.checkClubs(s.Clubs))
	})
}

func (p Process) checkClubs(clubs []Club) api.Errno {
	return checkSome(clubs, MaxClubs, func(i int, c Club) api.Errno {
		return firstError(
			checkName(clubs, i, func(c Club) string { return c.Name }),
			p.checkMoves(c.Moves))
	})
}

func (p Process) checkMoves(moves []Move) api.Errno {
	sum := 0
	e := checkSome(moves, maxMoves, func(i int, m Move) api.Errno {
		parts, e := partsOf(m.Chance)
		sum += parts
		return firstError(
			p.checkEnd(m.To),
			within(m.Penalty, 0, maxPenalty),
			e,
			unless(!hasMove(moves[:i], m.To, m.Penalty), api.ErrTwice))
	})
	return firstError(e, unless(sum == scale, api.ErrSum))
}

// checkEnd returns the error of where a stroke leads.
func (p Process) checkEnd(to int) api.Errno {
	if to == holed {
		return api.OK
	}
	return known(to, p.States)
}

// partsOf returns how many parts a chance is, or its first error.
func partsOf(chance api.Rat) (int, api.Errno) {
	x, e := card.Read(chance)
	if e != api.OK {
		return 0, e
	}
	// A number that is no multiple of a part has no integer here, and one that is too large no text at all.
	text, _ := x.Times(card.Integer(scale)).Rat()
	parts, err := strconv.Atoi(string(text))
	if err != nil || parts < 1 || parts > scale {
		return 0, api.ErrRange
	}
	return parts, api.OK
}

// CheckPlan returns the first error of a plan, or OK.
func CheckPlan(p Process, plan []int) api.Errno {
	if e := firstError(CheckProcess(p), paired(plan, p.States)); e != api.OK {
		return e
	}
	return checkEach(plan, func(i, club int) api.Errno { return known(club, p.States[i].Clubs) })
}

// CheckLog returns the first error of strokes, or OK.
func CheckLog(p Process, l []Stroke) api.Errno {
	return firstError(CheckProcess(p), p.checkStrokes(l))
}

func (p Process) checkStrokes(l []Stroke) api.Errno {
	return checkUpTo(l, api.MaxStrokes, func(i int, s Stroke) api.Errno {
		e := firstError(
			known(s.From, p.States),
			p.checkEnd(s.To),
			within(s.Penalty, 0, maxPenalty),
			unless(i == 0 || l[i-1].To == s.From, api.ErrOrder))
		if e != api.OK {
			return e
		}
		return unless(p.States[s.From].permits(s), api.ErrNone)
	})
}

// permits reports whether a club of a state has a move with which a stroke can have been played.
func (s State) permits(played Stroke) bool {
	return slices.ContainsFunc(s.Clubs, func(c Club) bool { return hasMove(c.Moves, played.To, played.Penalty) })
}

// hasMove reports whether one of some moves leads to a place with so many penalty strokes.
func hasMove(moves []Move, to, penalty int) bool {
	return slices.ContainsFunc(moves, func(m Move) bool { return m.To == to && m.Penalty == penalty })
}

// CheckOdds returns the first error of odds, or OK.
func CheckOdds(o Odds) api.Errno {
	_, e := readOdds(o)
	return e
}

// checkLead returns the error of a lead in a match.
func checkLead(lead int) api.Errno {
	return within(lead, -api.MaxHoles, api.MaxHoles)
}
