package union

import (
	"slices"

	"niblick/api"
	"niblick/card"
	"niblick/format"
)

// firstError returns the first error that is one.
func firstError(l ...api.Errno) api.Errno {
	for _, e := range l {
		if e != api.OK {
			return e
		}
	}
	return api.OK
}

// unless returns an error unless something is right.
func unless(right bool, e api.Errno) api.Errno {
	if right {
		return api.OK
	}
	return e
}

// within returns the error of an integer that is not between two others.
func within(n, least, most int) api.Errno {
	return unless(least <= n && n <= most, api.ErrRange)
}

// checkEach returns the error of the first element with one.
func checkEach[T any](l []T, check func(i int, x T) api.Errno) api.Errno {
	for i, x := range l {
		if e := check(i, x); e != api.OK {
			return e
		}
	}
	return api.OK
}

func checkName(name string) api.Errno {
	return unless(card.IsName(name), api.ErrName)
}

// checkNew returns the error of the name of an element: that it is none, or that of an earlier element.
func checkNew[T any](l []T, i int, name func(x T) string) api.Errno {
	own := name(l[i])
	twice := slices.ContainsFunc(l[:i], func(other T) bool { return name(other) == own })
	return firstError(checkName(own), unless(!twice, api.ErrTwice))
}

func checkHandicap(handicap int) api.Errno {
	return within(handicap, -format.MaxHandicap, format.MaxHandicap)
}

func checkEntry(entry api.Entry) api.Errno {
	// Package card checks entries where it prints them.
	_, e := card.Print([]api.Entry{entry})
	return e
}

// CheckUnion returns the first error of a union, or OK.
func CheckUnion(u Union) api.Errno {
	checks := []func() api.Errno{u.checkSizes, u.checkClubs, u.checkMembers, u.checkHoles, u.checkMarks, u.checkSigned, u.checkPast}
	return checkEach(checks, func(_ int, check func() api.Errno) api.Errno { return check() })
}

func (u Union) checkSizes() api.Errno {
	fits := len(u.Clubs) <= api.MaxList &&
		len(u.Members) <= api.MaxPlayers &&
		len(u.Marks) <= MaxMarks &&
		len(u.Signed) <= api.MaxPlayers &&
		len(u.Past) <= api.MaxList
	return unless(fits, api.ErrMany)
}

func (u Union) checkClubs() api.Errno {
	return checkEach(u.Clubs, func(i int, _ string) api.Errno {
		return checkNew(u.Clubs, i, func(club string) string { return club })
	})
}

func (u Union) checkMembers() api.Errno {
	return checkEach(u.Members, func(i int, m Member) api.Errno {
		return firstError(
			checkNew(u.Members, i, func(m Member) string { return m.Name }),
			u.knowsClub(m.Club),
			checkHandicap(m.Handicap))
	})
}

func (u Union) checkHoles() api.Errno {
	if len(u.Holes) == 0 {
		return api.OK
	}
	return card.CheckHoles(u.Holes)
}

func (u Union) checkMarks() api.Errno {
	taken := map[spot]bool{}
	return checkEach(u.Marks, func(_ int, m Mark) api.Errno {
		e := firstError(
			u.knows(m.Player, m.By),
			u.knowsHole(m.Hole),
			checkEntry(m.Entry),
			unless(!taken[m.spot()], api.ErrTwice))
		taken[m.spot()] = true
		return e
	})
}

func (u Union) checkSigned() api.Errno {
	r := u.read()
	return checkEach(u.Signed, func(i int, player string) api.Errno {
		return firstError(
			u.knows(player),
			unless(!slices.Contains(u.Signed[:i], player), api.ErrTwice),
			r.signable(player))
	})
}

func (u Union) checkPast() api.Errno {
	return checkEach(u.Past, func(i int, k Kept) api.Errno {
		e := firstError(
			checkNew(u.Past, i, func(k Kept) string { return k.Name }),
			card.CheckHoles(k.Holes),
			unless(len(k.Cards) <= api.MaxPlayers, api.ErrMany))
		if e != api.OK {
			return e
		}
		return checkEach(k.Cards, func(_ int, c api.Card) api.Errno { return card.CheckCard(k.Holes, c) })
	})
}

// knowsClub returns the error of a club that there is not.
func (u Union) knowsClub(club string) api.Errno {
	return unless(slices.Contains(u.Clubs, club), api.ErrUnknown)
}

// knows returns the error of names that no member has.
func (u Union) knows(names ...string) api.Errno {
	return checkEach(names, func(_ int, name string) api.Errno {
		known := slices.ContainsFunc(u.Members, func(m Member) bool { return m.Name == name })
		return unless(known, api.ErrUnknown)
	})
}

// knowsHole returns the error of a number that no hole has.
func (u Union) knowsHole(hole int) api.Errno {
	return unless(1 <= hole && hole <= len(u.Holes), api.ErrUnknown)
}

func (u Union) hasSigned(player string) bool {
	return slices.Contains(u.Signed, player)
}
