package course

import (
	"cmp"
	"iter"

	"niblick/api"
)

// fewestCorners is the least number of corners of a polygon.
const fewestCorners = 3

// Where a place is; inside is the opposite of outside.
const (
	onBorder = 0
	outside  = -1
)

// side leads from a corner to the next one.
type side struct {
	from, to api.Place
}

// sides returns the sides of a polygon with their numbers.
func sides(l []api.Place) iter.Seq2[int, side] {
	return func(yield func(int, side) bool) {
		for i, corner := range l {
			if !yield(i, side{corner, l[(i+1)%len(l)]}) {
				return
			}
		}
	}
}

// difference returns the way from one place to another.
func difference(from, to api.Place) api.Place {
	return api.Place{X: to.X - from.X, Y: to.Y - from.Y}
}

// cross is above 0 if way b leads to the left of way a, and 0 if both are on one line.
func cross(a, b api.Place) int {
	return a.X*b.Y - a.Y*b.X
}

func dot(a, b api.Place) int {
	return a.X*b.X + a.Y*b.Y
}

// squareOf returns the square of the distance of two places.
func squareOf(a, b api.Place) int {
	way := difference(a, b)
	return dot(way, way)
}

func turn(a, b, c api.Place) int {
	return cmp.Compare(cross(difference(a, b), difference(a, c)), 0)
}

// Turn returns the turn of three places.
func Turn(a, b, c api.Place) (int, api.Errno) {
	if e := checkPlaces(a, b, c); e != api.OK {
		return 0, e
	}
	return turn(a, b, c), api.OK
}

// CheckPolygon returns the first error of a polygon, or OK.
func CheckPolygon(l []api.Place) api.Errno {
	e := first(unless(len(l) >= fewestCorners, api.ErrShape), unless(len(l) <= api.MaxCorners, api.ErrMany))
	if e != api.OK {
		return e
	}
	if e := checkPlaces(l...); e != api.OK {
		return e
	}
	return unless(isSimple(l), api.ErrPolygon)
}

// isSimple reports whether sides have nothing in common but the corners between neighbours.
func isSimple(l []api.Place) bool {
	simple := true
search:
	for i, a := range sides(l) {
		if a.from == a.to {
			simple = false
			break
		}
		for j, b := range sides(l) {
			common := false
			switch {
			case j <= i:
				continue
			case j == i+1:
				common = foldedBack(a, b)
			case i == 0 && j == len(l)-1:
				common = foldedBack(b, a)
			default:
				common = touching(a, b)
			}
			if common {
				simple = false
				break search
			}
		}
	}
	return simple
}

// foldedBack reports whether a side runs back along the one before it.
func foldedBack(a, b side) bool {
	back, on := difference(b.from, a.from), difference(b.from, b.to)
	return cross(back, on) == 0 && dot(back, on) > 0
}

// touching reports whether two sides have a point in common: each one reaches the line of the other one, and so do their shadows on the axes.
func touching(a, b side) bool {
	return turn(a.from, a.to, b.from)*turn(a.from, a.to, b.to) <= 0 &&
		turn(b.from, b.to, a.from)*turn(b.from, b.to, a.to) <= 0 &&
		overlapping(a.from.X, a.to.X, b.from.X, b.to.X) &&
		overlapping(a.from.Y, a.to.Y, b.from.Y, b.to.Y)
}

func overlapping(a, b, c, d int) bool {
	return max(min(a, b), min(c, d)) <= min(max(a, b), max(c, d))
}

// Contains returns 1 inside, 0 on the border, -1 outside.
func Contains(l []api.Place, p api.Place) (int, api.Errno) {
	if e := first(CheckPolygon(l), checkPlaces(p)); e != api.OK {
		return 0, e
	}
	return position(l, p), api.OK
}

// position counts the sides that a half-line to the right meets. A corner on it counts as one below it, so each side that leads from one half to the other one counts once.
func position(l []api.Place, p api.Place) int {
	where := outside
	for _, s := range sides(l) {
		if touching(s, side{p, p}) {
			return onBorder
		}
		upwards := s.to.Y > p.Y
		if upwards == (s.from.Y > p.Y) {
			continue
		}
		if upwards == (turn(s.from, s.to, p) > 0) {
			where = -where
		}
	}
	return where
}

// Twice returns twice the area of a polygon.
func Twice(l []api.Place) (int, api.Errno) {
	if e := CheckPolygon(l); e != api.OK {
		return 0, e
	}
	twice := 0
	for _, s := range sides(l) {
		twice += cross(s.from, s.to)
	}
	return max(twice, -twice), api.OK
}
