package handicap

import (
	"slices"

	"niblick/api"
	"niblick/card"
	"niblick/format"
)

// The numbers without which the conditions of a day are not known, and how hard or easy a day can be.
const (
	leastNumbers = 8
	hardest      = 3
	easiest      = -1
)

// aboveLimit is how many net strokes above par count at most on a hole.
const aboveLimit = 2

// The marks of entries that have no strokes.
const (
	picked   = "x"
	unplayed = "-"
)

// Conditions returns how much harder a day was than usual, by a field.
func Conditions(l []api.Rat) (int, api.Errno) {
	numbers, e := readNumbers(l)
	if e != api.OK || len(numbers) < leastNumbers {
		return 0, e
	}
	return conditions(numbers), api.OK
}

// conditions bounds the median before it is rounded, as it may be too large for an int: the bounds are integers, and of them and a number the middle one of the three is the bounded number.
func conditions(l []card.Fraction) int {
	return nearest(median(card.Integer(easiest), median(l...), card.Integer(hardest)))
}

// Course returns the course handicap.
func Course(index api.Rat, slope int, rating api.Rat, par int) (int, api.Errno) {
	x, indexError := readBetween(index, leastIndex, MaxIndex)
	strokes, ratingError := readRating(rating)
	e := first(indexError, checkSlope(slope), ratingError, within(par, 1, maxRating))
	if e != api.OK {
		return 0, e
	}
	return nearest(x.Times(ratio(slope, Base)).Plus(strokes).Minus(card.Integer(par))), api.OK
}

// Playing returns the playing handicap by an allowance.
func Playing(course, percent int) (int, api.Errno) {
	if e := first(checkCourse(course), checkPercent(percent)); e != api.OK {
		return 0, e
	}
	return hundredth(course * percent), api.OK
}

// hundredth returns the hundredth part of a number, rounded to an integer.
func hundredth(n int) int {
	return nearest(ratio(n, hundredths))
}

// Relative returns handicaps less the least one.
func Relative(l []int) ([]int, api.Errno) {
	if e := checkPlayers(l, checkCourse); e != api.OK {
		return nil, e
	}
	least := slices.Min(l)
	relative := slices.Clone(l)
	for i := range relative {
		relative[i] -= least
	}
	return relative, api.OK
}

// Team returns the handicap of a side by the hundredths of its players.
func Team(l, percents []int) (int, api.Errno) {
	e := first(
		checkPlayers(l, checkCourse),
		checkPlayers(percents, checkPercent),
		unless(len(l) == len(percents), api.ErrShape))
	if e != api.OK {
		return 0, e
	}
	sum := 0
	for i, handicap := range l {
		sum += handicap * percents[i]
	}
	return hundredth(sum), api.OK
}

// Limits returns the most strokes that count on each hole.
func Limits(h []api.Hole, course int) ([]int, api.Errno) {
	pars, e := netPars(h, course)
	for i := range pars {
		pars[i] += aboveLimit
	}
	return pars, e
}

// netPars returns the pars of holes with the strokes given there.
func netPars(h []api.Hole, course int) ([]int, api.Errno) {
	pars, e := format.Given(h, course)
	if e := first(card.CheckHoles(h), checkCourse(course), e); e != api.OK {
		return nil, e
	}
	for i, hole := range h {
		pars[i] += hole.Par
	}
	return pars, api.OK
}

// Adjusted returns the adjusted gross strokes of a card.
func Adjusted(h []api.Hole, c api.Card, course int) (int, api.Errno) {
	pars, e := netPars(h, course)
	if e := first(card.CheckCard(h, c), e); e != api.OK {
		return 0, e
	}
	sum := 0
	for i, entry := range c.Entries {
		sum += adjusted(entry, pars[i])
	}
	return sum, api.OK
}

// adjusted returns the strokes of an entry that count on a hole with this par and strokes given.
func adjusted(entry api.Entry, netPar int) int {
	limit := netPar + aboveLimit
	switch entry.Mark {
	case picked:
		return limit
	case unplayed:
		return max(1, netPar)
	}
	return min(entry.Strokes, limit)
}
