package handicap

import (
	"niblick/api"
	"niblick/card"
)

// The ranges of what scores and handicaps consist of.
const (
	maxGross      = 999
	maxRating     = 200
	leastSlope    = 55
	mostSlope     = 155
	maxConditions = 5
	leastIndex    = -20
	maxCourse     = 99
)

// first returns the first error that is one.
func first(l ...api.Errno) api.Errno {
	for _, e := range l {
		if e != api.OK {
			return e
		}
	}
	return api.OK
}

// unless returns an error unless something is right.
func unless(right bool, e api.Errno) api.Errno {
	if right {
		return api.OK
	}
	return e
}

// within returns the error of an integer that is not between two others.
func within(n, least, most int) api.Errno {
	return unless(least <= n && n <= most, api.ErrRange)
}

// short returns the error of a list that is too long.
func short[T any](l []T, most int) api.Errno {
	return unless(len(l) <= most, api.ErrMany)
}

// readBetween returns a number, or its error if it is none or not between two integers.
func readBetween(a api.Rat, least, most int) (card.Fraction, api.Errno) {
	x, e := card.Read(a)
	return x, first(e, unless(
		x.Compare(card.Integer(least)) >= 0 && x.Compare(card.Integer(most)) <= 0,
		api.ErrRange))
}

func readRating(a api.Rat) (card.Fraction, api.Errno) {
	return readBetween(a, 1, maxRating)
}

// readNumbers returns the numbers of a list, or its error, or that of the first number with one.
func readNumbers(l []api.Rat) ([]card.Fraction, api.Errno) {
	if e := short(l, api.MaxList); e != api.OK {
		return nil, e
	}
	numbers := make([]card.Fraction, len(l))
	for i, a := range l {
		x, e := card.Read(a)
		if e != api.OK {
			return nil, e
		}
		numbers[i] = x
	}
	return numbers, api.OK
}

func checkDay(day int) api.Errno {
	return within(day, 0, MaxDay)
}

func checkSlope(slope int) api.Errno {
	return within(slope, leastSlope, mostSlope)
}

func checkCourse(course int) api.Errno {
	return within(course, -maxCourse, maxCourse)
}

func checkPercent(percent int) api.Errno {
	return within(percent, 0, hundredths)
}

// checkPlayers returns the error of a list that has an element for each player, or that of its first element with one.
func checkPlayers(l []int, check func(n int) api.Errno) api.Errno {
	if e := first(unless(len(l) > 0, api.ErrEmpty), short(l, api.MaxPlayers)); e != api.OK {
		return e
	}
	for _, n := range l {
		if e := check(n); e != api.OK {
			return e
		}
	}
	return api.OK
}

// CheckScore returns the first error of a score, or OK.
func CheckScore(s Score) api.Errno {
	_, ratingError := readRating(s.Rating)
	return first(
		checkDay(s.Day),
		within(s.Number, 1, api.MaxNumber),
		within(s.Gross, 1, maxGross),
		ratingError,
		checkSlope(s.Slope),
		within(s.Conditions, -maxConditions, maxConditions))
}

// CheckScores returns the first error of scores, or OK.
func CheckScores(l []Score) api.Errno {
	if e := short(l, api.MaxList); e != api.OK {
		return e
	}
	taken := map[int]bool{}
	for _, s := range l {
		if e := first(CheckScore(s), unless(!taken[s.Number], api.ErrTwice)); e != api.OK {
			return e
		}
		taken[s.Number] = true
	}
	return api.OK
}
