package play

import (
	"niblick/api"
	"niblick/card"
)

// noEdge is the Edge of a ball that does not lie in the water.
var noEdge = api.Point{X: "0", Y: "0"}

// squareOf returns the square of the distance of two places.
func squareOf(a, b api.Place) int {
	x, y := b.X-a.X, b.Y-a.Y
	return x*x + y*y
}

// vector leads from one point to another one. An Edge may have MaxDigits digits, and its products have more.
type vector struct {
	x, y card.Fraction
}

// vectorOf returns the way from a place to a point whose coordinates are numbers.
func vectorOf(from api.Place, to api.Point) vector {
	x, _ := card.Read(to.X)
	y, _ := card.Read(to.Y)
	return vector{x.Minus(card.Integer(from.X)), y.Minus(card.Integer(from.Y))}
}

// dot returns the sum of products; that of a vector with itself is the square of its length.
func (a vector) dot(b vector) card.Fraction {
	return a.x.Times(b.x).Plus(a.y.Times(b.y))
}

// isParallel reports whether two vectors are on one line.
func (a vector) isParallel(b vector) bool {
	return a.x.Times(b.y).Compare(a.y.Times(b.x)) == 0
}

// pointOf returns a place as a point.
func pointOf(p api.Place) api.Point {
	return api.Point{X: text(card.Integer(p.X)), Y: text(card.Integer(p.Y))}
}

// along returns the point at a fraction of the way from one place to another one.
func along(from, to api.Place, part card.Fraction) api.Point {
	between := func(from, to int) api.Rat {
		return text(card.Integer(from).Plus(part.Times(card.Integer(to - from))))
	}
	return api.Point{X: between(from.X, to.X), Y: between(from.Y, to.Y)}
}

// text returns the text of a coordinate.
func text(x card.Fraction) api.Rat {
	// There is no error: places, and fractions at which areas begin, have few digits.
	number, _ := x.Rat()
	return number
}
