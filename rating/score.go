package rating

import (
	"slices"

	"niblick/api"
	"niblick/card"
)

// Mean returns the mean of numbers.
func Mean(l []api.Rat) (api.Rat, api.Errno) {
	numbers, e := readList(l, api.MaxList, card.Read)
	if e != api.OK {
		return "", e
	}
	return mean(numbers).Rat()
}

func mean(l []card.Fraction) card.Fraction {
	return total(l...).Over(card.Integer(len(l)))
}

// Median returns the median of numbers.
func Median(l []api.Rat) (api.Rat, api.Errno) {
	numbers, e := readList(l, api.MaxList, card.Read)
	if e != api.OK {
		return "", e
	}
	return median(numbers).Rat()
}

// median returns the mean of the two middle numbers; if there is one, it is both.
func median(l []card.Fraction) card.Fraction {
	ascending := slices.SortedFunc(slices.Values(l), card.Fraction.Compare)
	return mean([]card.Fraction{ascending[(len(l)-1)/2], ascending[len(l)/2]})
}

// point is a point of a list whose numbers have been read.
type point struct {
	x, y card.Fraction
}

func readPoint(p api.Point) (point, api.Errno) {
	x, e := card.Read(p.X)
	y, f := card.Read(p.Y)
	return point{x, y}, first(e, f)
}

// sumOver returns the sum of what the points give.
func sumOver(l []point, give func(p point) card.Fraction) card.Fraction {
	given := make([]card.Fraction, len(l))
	for i, p := range l {
		given[i] = give(p)
	}
	return total(given...)
}

// Fit returns the line with the least squares.
func Fit(l []api.Point) (api.Rat, api.Rat, api.Errno) {
	points, e := readList(l, api.MaxList, readPoint)
	if e != api.OK {
		return "", "", e
	}
	if !slices.ContainsFunc(l, func(p api.Point) bool { return p.X != l[0].X }) {
		return "", "", api.ErrSingular
	}
	slope, offset := fit(points)
	a, slopeError := slope.Rat()
	b, offsetError := offset.Rat()
	if e := first(slopeError, offsetError); e != api.OK {
		return "", "", e
	}
	return a, b, api.OK
}

// fit solves the normal equations of a line.
func fit(l []point) (slope, offset card.Fraction) {
	n := card.Integer(len(l))
	x := sumOver(l, func(p point) card.Fraction { return p.x })
	y := sumOver(l, func(p point) card.Fraction { return p.y })
	xx := sumOver(l, func(p point) card.Fraction { return p.x.Times(p.x) })
	xy := sumOver(l, func(p point) card.Fraction { return p.x.Times(p.y) })
	slope = n.Times(xy).Minus(x.Times(y)).Over(n.Times(xx).Minus(x.Times(x)))
	return slope, y.Minus(slope.Times(x)).Over(n)
}

// Squares returns the sum of the squares by which points miss a line.
func Squares(l []api.Point, slope, offset api.Rat) (api.Rat, api.Errno) {
	points, e := readList(l, api.MaxList, readPoint)
	a, slopeError := card.Read(slope)
	b, offsetError := card.Read(offset)
	if e := first(e, slopeError, offsetError); e != api.OK {
		return "", e
	}
	return sumOver(points, func(p point) card.Fraction {
		miss := p.y.Minus(a.Times(p.x)).Minus(b)
		return miss.Times(miss)
	}).Rat()
}

// Drift returns by how much the median of scores is above a rating.
func Drift(c Course, tee, level int, scores []int) (api.Rat, api.Errno) {
	l, e := readRound(c, tee, level)
	e = first(e, sized(scores, api.MaxList), checkNumbers(scores, api.MaxNumber))
	if e != api.OK {
		return "", e
	}
	numbers := make([]card.Fraction, len(scores))
	for i, score := range scores {
		numbers[i] = card.Integer(score)
	}
	return median(numbers).Minus(l.rounded(tee, level)).Rat()
}
