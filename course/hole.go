package course

import (
	"slices"

	"niblick/api"
	"niblick/card"
)

// The kinds of areas that holes are checked for, and what is in none.
const (
	green = "green"
	water = "water"
	out   = "out"
)

// nowhere is the number of the area of places that are out.
const nowhere = -1

// kinds has the kinds of areas in their order of precedence.
var kinds = []string{green, "tee", "bunker", water, "fairway", "rough"}

// isKind reports whether areas can have a kind.
func isKind(kind string) bool {
	for _, known := range kinds {
		if kind == known {
			return true
		}
	}
	return false
}

// checkPlaceKind returns the error of a kind that a place can have.
func checkPlaceKind(kind string) api.Errno {
	return unless(isKind(kind) || kind == out, api.ErrKind)
}

// CheckHole returns the first error of a hole, or OK.
func CheckHole(h Hole) api.Errno {
	e := first(
		unless(card.IsName(h.Name), api.ErrName),
		checkPlaces(h.Tee, h.Cup),
		unless(len(h.Line) <= MaxLine, api.ErrMany),
		checkPlaces(h.Line...),
		unless(len(h.Areas) <= MaxAreas, api.ErrMany))
	if e != api.OK {
		return e
	}
	for _, area := range h.Areas {
		if e := first(unless(isKind(area.Kind), api.ErrKind), CheckPolygon(area.Corners)); e != api.OK {
			return e
		}
	}
	tee, _ := locate(h, h.Tee)
	cup, _ := locate(h, h.Cup)
	return unless(tee != water && tee != out && cup == green, api.ErrArea)
}

// Locate returns the area in which a place is.
func Locate(h Hole, p api.Place) (string, int, api.Errno) {
	if e := first(CheckHole(h), checkPlaces(p)); e != api.OK {
		return "", 0, e
	}
	kind, number := locate(h, p)
	return kind, number, api.OK
}

func locate(h Hole, p api.Place) (string, int) {
	return firstArea(h, func(number int) bool {
		return position(h.Areas[number].Corners, p) != outside
	})
}

// firstArea returns the first kind with an area that contains something, and the number of its first such area.
func firstArea(h Hole, contains func(number int) bool) (string, int) {
	for _, kind := range kinds {
		for number, area := range h.Areas {
			if area.Kind == kind && contains(number) {
				return kind, number
			}
		}
	}
	return out, nowhere
}

// Length returns the length of a hole.
func Length(h Hole) (int, api.Errno) {
	if e := CheckHole(h); e != api.OK {
		return 0, e
	}
	length, from := 0, h.Tee
	for _, to := range slices.Concat(h.Line, []api.Place{h.Cup}) {
		// There is no error, as a square is not negative.
		leg, _ := card.Root(squareOf(from, to))
		length += leg
		from = to
	}
	return length, api.OK
}
