package course

import (
	"cmp"
	"math/bits"
	"slices"

	"niblick/api"
	"niblick/card"
)

// fraction is a number from 0 to 1, not always in lowest terms: how far along a segment a point is.
type fraction struct {
	num, den int
}

var (
	start = fraction{0, 1}
	end   = fraction{1, 1}
)

// fractionOf returns num / den, or the end of the segment that is nearer to it.
func fractionOf(num, den int) fraction {
	if den < 0 {
		num, den = -num, -den
	}
	switch {
	case num <= 0:
		return start
	case num >= den:
		return end
	}
	return fraction{num, den}
}

func (a fraction) compare(b fraction) int {
	// The products may have more than 64 bits.
	high, low := bits.Mul64(uint64(a.num), uint64(b.den))
	otherHigh, otherLow := bits.Mul64(uint64(b.num), uint64(a.den))
	return cmp.Or(cmp.Compare(high, otherHigh), cmp.Compare(low, otherLow))
}

func (a fraction) rat() api.Rat {
	// There is no error, as den is above 0.
	number, _ := card.Of(a.num, a.den)
	return number
}

// stretch is a piece of a segment.
type stretch struct {
	from, to fraction
}

// trace says how a segment, and the half-line behind it, meet the border of a polygon.
type trace struct {
	crossings []fraction // where a side leads from the right of the segment, or from its line, to its left, or back
	runs      []stretch  // where the segment runs along a side
}

func traceOf(l []api.Place, a, b api.Place) trace {
	var t trace
	way := difference(a, b)
	for _, s := range sides(l) {
		from, to := cross(way, difference(a, s.from)), cross(way, difference(a, s.to))
		switch {
		case from == 0 && to == 0:
			t.runs = append(t.runs, runOf(way, a, s))
		case (from > 0) != (to > 0):
			along := difference(s.from, s.to)
			t.crossings = append(t.crossings, fractionOf(cross(difference(a, s.from), along), cross(way, along)))
		}
	}
	return t
}

// runOf returns what a segment has in common with a side on its line.
func runOf(way, a api.Place, s side) stretch {
	square := dot(way, way)
	from := fractionOf(dot(way, difference(a, s.from)), square)
	to := fractionOf(dot(way, difference(a, s.to)), square)
	if from.compare(to) > 0 {
		from, to = to, from
	}
	return stretch{from, to}
}

// contains reports whether the points of a stretch without a division are in the polygon: on a side, or with an odd number of sides in front of them.
func (t trace) contains(s stretch) bool {
	for _, run := range t.runs {
		if run.from.compare(s.from) <= 0 && s.to.compare(run.to) <= 0 {
			return true
		}
	}
	odd := false
	for _, crossing := range t.crossings {
		if s.to.compare(crossing) <= 0 {
			odd = !odd
		}
	}
	return odd
}

// divisions returns where a segment is divided, in ascending order. Corners that it only touches are left out: they change nothing.
func divisions(traces []trace) []fraction {
	l := []fraction{start, end}
	for _, t := range traces {
		l = append(l, t.crossings...)
		for _, run := range t.runs {
			l = append(l, run.from, run.to)
		}
	}
	slices.SortFunc(l, fraction.compare)
	return slices.CompactFunc(l, func(a, b fraction) bool { return a.compare(b) == 0 })
}

// piece is a stretch whose points are of one kind.
type piece struct {
	stretch
	kind string
}

// pieces returns the longest pieces of a segment of which each one is of one kind.
func pieces(h Hole, a, b api.Place) []piece {
	if a == b {
		kind, _ := locate(h, a)
		return []piece{{stretch{start, end}, kind}}
	}
	traces := make([]trace, len(h.Areas))
	for i, area := range h.Areas {
		traces[i] = traceOf(area.Corners, a, b)
	}
	var l []piece
	from := start
	for _, to := range divisions(traces)[1:] {
		next := stretch{from, to}
		kind, _ := firstArea(h, func(number int) bool { return traces[number].contains(next) })
		l = append(l, piece{next, kind})
		from = to
	}
	return merged(l, func(last, next piece) (piece, bool) {
		return piece{stretch{last.from, next.to}, last.kind}, last.kind == next.kind
	})
}

// merged joins neighbours as long as they can be joined.
func merged[T any](l []T, join func(last, next T) (T, bool)) []T {
	var m []T
	for _, next := range l {
		if len(m) > 0 {
			if both, ok := join(m[len(m)-1], next); ok {
				m[len(m)-1] = both
				continue
			}
		}
		m = append(m, next)
	}
	return m
}

// Crosses returns the parts of a segment.
func Crosses(h Hole, a, b api.Place) ([]Part, api.Errno) {
	if e := first(CheckHole(h), checkPlaces(a, b)); e != api.OK {
		return nil, e
	}
	var parts []Part
	for _, p := range pieces(h, a, b) {
		parts = append(parts, Part{p.from.rat(), p.to.rat(), p.kind})
	}
	return parts, api.OK
}

// Entry returns where a segment last comes into a kind.
func Entry(h Hole, a, b api.Place, kind string) (api.Rat, api.Errno) {
	if e := first(CheckHole(h), checkPlaces(a, b), checkPlaceKind(kind)); e != api.OK {
		return "", e
	}
	for _, p := range slices.Backward(pieces(h, a, b)) {
		if p.kind == kind {
			return p.from.rat(), api.OK
		}
	}
	return "", api.ErrNone
}
