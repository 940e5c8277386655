package course_test

import (
	"math/rand"
	"slices"
	"strings"
	"testing"

	"niblick/api"
	"niblick/course"
)

// holeDefects are all that can be wrong with a hole, in the order in which it is looked at.
var holeDefects = []defect[course.Hole]{
	{"no name", func(h *course.Hole) { h.Name = "" }, api.ErrName},
	{"the tee far", func(h *course.Hole) { h.Tee = far }, api.ErrRange},
	{"the cup far", func(h *course.Hole) { h.Cup = at(-1000001, 0) }, api.ErrRange},
	{"a line of 17 corners", func(h *course.Hole) { h.Line = append(make([]api.Place, 15), h.Line...) }, api.ErrMany},
	{"a corner of the line far", func(h *course.Hole) { h.Line[1] = at(0, -1000001) }, api.ErrRange},
	{"33 areas", func(h *course.Hole) { h.Areas = append(h.Areas, make([]course.Area, 29)...) }, api.ErrMany},
	{"an unknown kind", func(h *course.Hole) { h.Areas[0].Kind = "sand" }, api.ErrKind},
	{"no polygon", func(h *course.Hole) { h.Areas[1].Corners = box(0, 0, 0, 1)[:2] }, api.ErrShape},
	{"the second of the wrong areas", func(h *course.Hole) { h.Areas[3].Kind = "out" }, api.ErrKind},
	{"the tee in water", func(h *course.Hole) { h.Areas[0].Corners = box(-2000, -2000, 2000, 2000); h.Tee.X = 45 }, api.ErrArea},
}

func lined() course.Hole {
	h := one()
	h.Line = []api.Place{at(20, 0), at(60, -3)}
	return h
}

func TestP2_2CheckHoleErrors(t *testing.T) {
	inOrder(t, lined, func(t *testing.T, h course.Hole, want api.Errno) {
		is(t, "CheckHole", course.CheckHole(h), want)
		checkHoleError(t, h, want)
	}, holeDefects)
}

// checkHoleError checks that all functions of a hole look at it first.
func checkHoleError(t *testing.T, h course.Hole, want api.Errno) {
	t.Helper()
	kind, number, e := course.Locate(h, far)
	fails(t, "kind", kind, e, want)
	fails(t, "number", number, e, want)
	parts, e := course.Crosses(h, far, far)
	fails(t, "Crosses", parts, e, want)
	entry, e := course.Entry(h, far, far, "")
	fails(t, "Entry", entry, e, want)
	place, e := course.Relief(h, far, "", -1)
	fails(t, "Relief", place, e, want)
	length, e := course.Length(h)
	fails(t, "Length", length, e, want)
	text, e := course.Print(h)
	fails(t, "Print", text, e, want)
	moved, e := course.Moved(h, far)
	fails(t, "Moved", moved, e, want)
	turned, e := course.Turned(h, 1)
	fails(t, "Turned", turned, e, want)
	mirrored, e := course.Mirrored(h)
	fails(t, "Mirrored", mirrored, e, want)
}

func TestP2_2MoreErrorsOfHoles(t *testing.T) {
	for _, x := range []struct {
		name   string
		change func(h *course.Hole)
		want   api.Errno
	}{
		{"the zero value", func(h *course.Hole) { *h = course.Hole{} }, api.ErrName},
		{"a name of 25 bytes", func(h *course.Hole) { h.Name = strings.Repeat("a", 25) }, api.ErrName},
		{"a name that begins with a digit", func(h *course.Hole) { h.Name = "1st" }, api.ErrName},
		{"a name with a blank", func(h *course.Hole) { h.Name = "the first" }, api.ErrName},
		{"the tee's Y", func(h *course.Hole) { h.Tee.Y = -1000001 }, api.ErrRange},
		{"the cup's Y", func(h *course.Hole) { h.Cup.Y = 1000001 }, api.ErrRange},
		{"the first corner of the line", func(h *course.Hole) { h.Line[0] = far }, api.ErrRange},
		{"no kind", func(h *course.Hole) { h.Areas[3].Kind = "" }, api.ErrKind},
		{"a kind with a capital", func(h *course.Hole) { h.Areas[3].Kind = "Water" }, api.ErrKind},
		{"an area out", func(h *course.Hole) { h.Areas[3].Kind = "out" }, api.ErrKind},
		{"a kind before its corners", func(h *course.Hole) { h.Areas[0] = course.Area{Kind: "sand"} }, api.ErrKind},
		{"65 corners", func(h *course.Hole) { h.Areas[1].Corners = comb(65) }, api.ErrMany},
		{"a corner far", func(h *course.Hole) { h.Areas[3].Corners[3] = far }, api.ErrRange},
		{"not simple", func(h *course.Hole) { h.Areas[2].Corners[0] = h.Areas[2].Corners[1] }, api.ErrPolygon},
		{"no areas", func(h *course.Hole) { h.Areas = nil }, api.ErrArea},
		{"the tee out", func(h *course.Hole) { h.Tee.X = -11 }, api.ErrArea},
		{"the tee on the border of water", func(h *course.Hole) { h.Tee.X = 40 }, api.ErrArea},
		{"the cup beside the green", func(h *course.Hole) { h.Cup.X = 89 }, api.ErrArea},
		{"the cup in the rough", func(h *course.Hole) { h.Cup.X = 111 }, api.ErrArea},
		{"the cup out", func(h *course.Hole) { h.Cup.X = 121 }, api.ErrArea},
		{"no green", func(h *course.Hole) { h.Areas[2].Kind = "tee" }, api.ErrArea},
	} {
		h := lined()
		x.change(&h)
		is(t, x.name, course.CheckHole(h), x.want)
		checkHoleError(t, h, x.want)
	}
}

// broad returns a hole with as much as a hole may have.
func broad() course.Hole {
	h := one()
	h.Name = "a" + strings.Repeat("_", 23)
	h.Line = slices.Repeat([]api.Place{at(1000000, -1000000)}, 16)
	h.Areas[1].Corners = comb(64)
	for len(h.Areas) < 32 {
		h.Areas = append(h.Areas, course.Area{Kind: "rough", Corners: box(-1000000, -1000000, 1000000, 1000000)})
	}
	return h
}

func TestP2_2CheckHole(t *testing.T) {
	for _, x := range []struct {
		name   string
		change func(h *course.Hole)
	}{
		{"the hole of the examples", func(*course.Hole) {}},
		{"as much as there may be", func(h *course.Hole) { *h = broad() }},
		{"a tee in a tee", func(h *course.Hole) { h.Areas[3] = course.Area{Kind: "tee", Corners: box(-5, -5, 5, 5)} }},
		{"a tee in a bunker", func(h *course.Hole) { h.Areas[3] = course.Area{Kind: "bunker", Corners: box(-5, -5, 5, 5)} }},
		{"a tee in the fairway", func(h *course.Hole) { h.Tee.X = 60 }},
		{"a tee in the green", func(h *course.Hole) { h.Tee = h.Cup }},
		{"a tee beside the water", func(h *course.Hole) { h.Tee.X = 39 }},
		{"a tee in the corner of the rough", func(h *course.Hole) { h.Tee = at(-10, 20) }},
		{"a cup on the border", func(h *course.Hole) { h.Cup.X = 90 }},
		{"a cup in the corner", func(h *course.Hole) { h.Cup = at(110, 5) }},
		{"a green in the water", func(h *course.Hole) { h.Areas[3].Corners = box(30, -20, 120, 20) }},
		{"a green alone", func(h *course.Hole) { h.Tee, h.Areas = h.Cup, h.Areas[2:3] }},
	} {
		h := one()
		x.change(&h)
		is(t, x.name, course.CheckHole(h), api.OK)
	}
}

func TestP2_2Locate(t *testing.T) {
	for _, x := range []struct {
		p      api.Place
		kind   string
		number int
	}{
		{at(0, 0), "rough", 0}, {at(45, 0), "water", 3}, {at(90, 0), "green", 2}, {at(120, 20), "rough", 0}, {at(121, 0), "out", -1},
		{at(40, 5), "water", 3}, {at(39, 5), "fairway", 1}, {at(45, 21), "out", -1}, {at(90, 6), "fairway", 1}, {at(10, 10), "fairway", 1},
		{at(10, 11), "rough", 0}, {at(-10, -20), "rough", 0}, {at(-10, -21), "out", -1}, {at(110, 5), "green", 2}, {at(111, 5), "rough", 0},
		{at(50, -20), "water", 3}, {at(1000000, -1000000), "out", -1}, {at(-1000000, 1000000), "out", -1},
	} {
		kind, number, e := course.Locate(one(), x.p)
		gives(t, "kind", kind, e, x.kind)
		gives(t, "number", number, e, x.number)
	}
	for _, p := range []api.Place{far, at(1000001, 0), at(-1000001, 0), at(0, -1000001)} {
		kind, number, e := course.Locate(one(), p)
		fails(t, "kind", kind, e, api.ErrRange)
		fails(t, "number", number, e, api.ErrRange)
	}
}

// Of any two kinds at one place the first one in their order counts, wherever it is in the list; of one kind the first area.
func TestP2_2Precedence(t *testing.T) {
	for i, kind := range allKinds {
		for _, other := range allKinds[i:] {
			for _, order := range [][]string{{kind, other}, {other, kind}} {
				h := one()
				for _, k := range order {
					h.Areas = append(h.Areas, course.Area{Kind: k, Corners: box(1000, 1000, 1010, 1010)})
				}
				got, number, e := course.Locate(h, at(1005, 1000))
				gives(t, "kind", got, e, kind)
				gives(t, "number", number, e, 4+slices.Index(order, kind))
			}
		}
	}
	h := one()
	h.Areas = append(h.Areas, h.Areas[2])
	_, number, e := course.Locate(h, h.Cup)
	gives(t, "the first of two greens", number, e, 2)
	h.Areas = slices.Concat(h.Areas[4:], h.Areas[:4])
	_, number, e = course.Locate(h, h.Cup)
	gives(t, "the first of two greens", number, e, 0)
}

// located follows the definition of the area of a place by Contains.
func located(t *testing.T, h course.Hole, p api.Place) (string, int) {
	t.Helper()
	best, kind := -1, len(allKinds)
	for i, area := range h.Areas {
		n, e := course.Contains(area.Corners, p)
		is(t, "Contains", e, api.OK)
		if k := slices.Index(allKinds, area.Kind); n >= 0 && k < kind {
			best, kind = i, k
		}
	}
	if best < 0 {
		return "out", -1
	}
	return allKinds[kind], best
}

func TestP2_2LocateByDefinition(t *testing.T) {
	random := rand.New(rand.NewSource(4))
	for range 200 {
		h := randomHole(random, 6)
		for range 40 {
			p := randomPlace(random, 7)
			kind, number, e := course.Locate(h, p)
			wantKind, wantNumber := located(t, h, p)
			gives(t, "kind", kind, e, wantKind)
			gives(t, "number", number, e, wantNumber)
		}
	}
}

func TestP2_3Length(t *testing.T) {
	for _, x := range []struct {
		tee  api.Place
		line []api.Place
		want int
	}{
		{at(0, 0), nil, 100},
		{at(0, 0), []api.Place{}, 100},
		{at(0, 0), []api.Place{at(50, 50)}, 140},
		{at(100, 0), nil, 0},
		{at(99, 1), nil, 1},
		{at(98, 2), nil, 2},
		{at(0, 0), []api.Place{at(0, 0), at(100, 0), at(100, 0)}, 100},
		{at(0, 0), []api.Place{at(1, 1), at(2, 2), at(3, 3), at(0, 0)}, 107},
		{at(0, 0), []api.Place{at(3, 4), at(3, -4)}, 110},
		{at(0, 0), []api.Place{at(-1000000, -1000000), at(1000000, 1000000)}, 1414213 + 2828427 + 1414142},
	} {
		h := one()
		h.Tee, h.Line = x.tee, x.line
		length, e := course.Length(h)
		gives(t, "Length", length, e, x.want)
	}
	length, e := course.Length(broad())
	gives(t, "16 corners", length, e, 1414213+1414142)
	h := one()
	h.Areas = []course.Area{{Kind: "green", Corners: box(-1000000, -1000000, 1000000, 1000000)}}
	h.Tee, h.Cup = at(-1000000, -1000000), at(1000000, 1000000)
	length, e = course.Length(h)
	gives(t, "as far as possible", length, e, 2828427)
}
