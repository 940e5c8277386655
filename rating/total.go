package rating

import (
	"iter"
	"slices"

	"niblick/api"
	"niblick/card"
)

// The range of slopes, and how many times a difference of ratings they are.
const (
	leastSlope = 55
	mostSlope  = 155
	perStroke  = 5
)

// ratings returns the ratings of all holes in their order.
func (l layout) ratings(tee, level int) iter.Seq[card.Fraction] {
	return func(yield func(card.Fraction) bool) {
		for hole := range l.sites {
			if !yield(l.rating(tee, hole, level)) {
				return
			}
		}
	}
}

// total returns the sum of numbers.
func total(l ...card.Fraction) card.Fraction {
	return combined(l, card.Fraction.Plus)
}

// combined joins all elements of a list, or returns the zero value if there are none. It joins halves, as long sums of fractions have many digits.
func combined[T any](l []T, join func(a, b T) T) T {
	switch len(l) {
	case 0:
		return *new(T)
	case 1:
		return l[0]
	}
	half := len(l) / 2
	return join(combined(l[:half], join), combined(l[half:], join))
}

// readRound returns a course, or its error, or that of a tee or levels that are not there.
func readRound(c Course, tee int, levels ...int) (layout, api.Errno) {
	l, e := readCourse(c)
	e = first(e, known(l.tees, tee))
	for _, level := range levels {
		e = first(e, known(l.levels, level))
	}
	return l, e
}

// Exact returns the sum of the ratings of all holes.
func Exact(c Course, tee, level int) (api.Rat, api.Errno) {
	l, e := readRound(c, tee, level)
	if e != api.OK {
		return "", e
	}
	return l.exact(tee, level).Rat()
}

func (l layout) exact(tee, level int) card.Fraction {
	return total(slices.Collect(l.ratings(tee, level))...)
}

// Rating returns the rating of a course.
func Rating(c Course, tee, level int) (api.Rat, api.Errno) {
	l, e := readRound(c, tee, level)
	if e != api.OK {
		return "", e
	}
	return l.rounded(tee, level).Rat()
}

// rounded returns the rating; the exact one may be too long for card.Round.
func (l layout) rounded(tee, level int) card.Fraction {
	tenths := card.Integer(10)
	return nearest(l.exact(tee, level).Times(tenths)).Over(tenths)
}

// nearest returns the nearest integer, halves upwards.
func nearest(x card.Fraction) card.Fraction {
	half := card.Integer(1).Over(card.Integer(2))
	return x.Plus(half).Floor()
}

// Nines returns the sums of the ratings of the first and the second half of the holes.
func Nines(c Course, tee, level int) (api.Rat, api.Rat, api.Errno) {
	l, e := readRound(c, tee, level)
	if e != api.OK {
		return "", "", e
	}
	ratings := slices.Collect(l.ratings(tee, level))
	half := len(ratings) / 2
	out, outError := total(ratings[:half]...).Rat()
	in, inError := total(ratings[half:]...).Rat()
	if e := first(outError, inError); e != api.OK {
		return "", "", e
	}
	return out, in, api.OK
}

// Slope returns the slope of a course for two levels.
func Slope(c Course, tee, good, weak int) (int, api.Errno) {
	l, e := readRound(c, tee, good, weak)
	if e != api.OK {
		return 0, e
	}
	difference := l.exact(tee, weak).Minus(l.exact(tee, good))
	slope := nearest(difference.Times(card.Integer(perStroke)))
	switch least, most := card.Integer(leastSlope), card.Integer(mostSlope); {
	case slope.Compare(least) < 0:
		slope = least
	case slope.Compare(most) > 0:
		slope = most
	}
	return whole(slope), api.OK
}

// Table returns the ratings of all tees for all levels.
func Table(c Course) ([][]api.Rat, api.Errno) {
	l, e := readCourse(c)
	if e != api.OK {
		return nil, e
	}
	table := make([][]api.Rat, len(l.tees))
	for tee := range l.tees {
		for level := range l.levels {
			rating, e := l.rounded(tee, level).Rat()
			if e != api.OK {
				return nil, e
			}
			table[tee] = append(table[tee], rating)
		}
	}
	return table, api.OK
}

// Indices returns stroke indices of all holes.
func Indices(c Course, tee, good, weak int) ([]int, api.Errno) {
	l, e := readRound(c, tee, good, weak)
	if e != api.OK {
		return nil, e
	}
	lower, upper := slices.Collect(l.ratings(tee, good)), slices.Collect(l.ratings(tee, weak))
	holes := make([]int, len(l.sites))
	differences := make([]card.Fraction, len(l.sites))
	for hole := range holes {
		holes[hole] = hole
		differences[hole] = upper[hole].Minus(lower[hole])
	}
	slices.SortStableFunc(holes, func(a, b int) int { return differences[b].Compare(differences[a]) })
	indices := make([]int, len(holes))
	for place, hole := range holes {
		indices[hole] = place + 1
	}
	return indices, api.OK
}
