package play

import (
	"niblick/api"
	"niblick/card"
	"niblick/course"
)

// first returns the first error that is one.
func first(l ...api.Errno) api.Errno {
	for _, e := range l {
		if e != api.OK {
			return e
		}
	}
	return api.OK
}

// unless returns an error unless something is right.
func unless(right bool, e api.Errno) api.Errno {
	if right {
		return api.OK
	}
	return e
}

// within returns the error of an integer that is not between two others.
func within(n, least, most int) api.Errno {
	return unless(least <= n && n <= most, api.ErrRange)
}

// checkPlaces returns the error of places with a coordinate that is none.
func checkPlaces(l ...api.Place) api.Errno {
	for _, p := range l {
		e := first(within(p.X, -api.MaxPlace, api.MaxPlace), within(p.Y, -api.MaxPlace, api.MaxPlace))
		if e != api.OK {
			return e
		}
	}
	return api.OK
}

// CheckSetup returns the first error of a setup, or OK.
func CheckSetup(s Setup) api.Errno {
	return first(course.CheckHole(s.Hole), within(s.Players, 1, MaxPlayers), within(s.Club, 1, MaxClub))
}

// checkPlayer returns the error of a number that no player has.
func (s Setup) checkPlayer(player int) api.Errno {
	return unless(0 <= player && player < s.Players, api.ErrUnknown)
}

// CheckState returns the first error of a state, or OK.
func CheckState(s Setup, x State) api.Errno {
	if e := first(CheckSetup(s), unless(len(x.Balls) == s.Players, api.ErrShape)); e != api.OK {
		return e
	}
	for _, b := range x.Balls {
		if e := s.checkBall(b); e != api.OK {
			return e
		}
	}
	return api.OK
}

func (s Setup) checkBall(b Ball) api.Errno {
	e := first(
		unless(canEnd(b.Phase, b.End), api.ErrKind),
		checkPlaces(b.At, b.From, b.Spare),
		card.Check(b.Edge.X),
		card.Check(b.Edge.Y),
		checkStrokes(b.Strokes, b.Penalty, b.Spares))
	if e != api.OK {
		return e
	}
	lie := s.lie(b.At)
	return first(
		unless(lie != out && s.lie(b.From) != out && s.lie(b.Spare) != out, api.ErrArea),
		unless(lie == water || b.Edge == noEdge, api.ErrForm))
}

// canEnd reports whether a phase is one, and has an end.
func canEnd(phase, end string) bool {
	switch phase {
	case inPlay, inDoubt, lifted:
		return end == ""
	case done:
		return end == holed || end == conceded || end == picked
	}
	return false
}

// checkStrokes returns the error of numbers of strokes, each one alone and all together.
func checkStrokes(l ...int) api.Errno {
	left := api.MaxStrokes
	for _, n := range l {
		if e := within(n, 0, left); e != api.OK {
			return e
		}
		left -= n
	}
	return api.OK
}

// CheckAct returns the first error of an act, or OK.
func CheckAct(s Setup, a Act) api.Errno {
	return first(CheckSetup(s), s.checkAct(a))
}

func (s Setup) checkAct(a Act) api.Errno {
	k, known := kinds()[a.Kind]
	return first(
		s.checkPlayer(a.Player),
		unless(known, api.ErrKind),
		checkPlaces(a.At),
		unless(k.placed || a.At == api.Place{}, api.ErrForm))
}

// CheckLog returns the first error of a log, or OK.
func CheckLog(s Setup, l []Item) api.Errno {
	if e := first(CheckSetup(s), unless(len(l) <= api.MaxList, api.ErrMany)); e != api.OK {
		return e
	}
	for _, item := range l {
		if e := first(within(item.Replaces, 0, api.MaxList), s.checkItem(item)); e != api.OK {
			return e
		}
	}
	return api.OK
}

func (s Setup) checkItem(item Item) api.Errno {
	if item.Void {
		return unless(item.Replaces != 0 && item.Act == Act{}, api.ErrForm)
	}
	return s.checkAct(item.Act)
}
