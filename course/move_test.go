package course_test

import (
	"math"
	"math/rand"
	"testing"

	"niblick/api"
	"niblick/course"
)

// transformed returns a hole with each place where it comes to.
func transformed(h course.Hole, to func(x, y int) api.Place) course.Hole {
	h = copied(h)
	h.Tee, h.Cup = to(h.Tee.X, h.Tee.Y), to(h.Cup.X, h.Cup.Y)
	for i, p := range h.Line {
		h.Line[i] = to(p.X, p.Y)
	}
	for _, area := range h.Areas {
		for i, p := range area.Corners {
			area.Corners[i] = to(p.X, p.Y)
		}
	}
	return h
}

func TestP2_6Moved(t *testing.T) {
	h := lined()
	for _, by := range []api.Place{at(0, 0), at(5, -7), at(-1000, 1000), at(999880, 999980), at(-999990, -999980)} {
		moved, e := course.Moved(h, by)
		gives(t, "Moved", moved, e, transformed(h, func(x, y int) api.Place { return at(x+by.X, y+by.Y) }))
	}
	all := one()
	all.Areas = append(all.Areas, course.Area{Kind: "rough", Corners: box(-1000000, -1000000, 0, 0)})
	moved, e := course.Moved(all, at(999880, 999980))
	gives(t, "across the map", moved, e, transformed(all, func(x, y int) api.Place { return at(x+999880, y+999980) }))
	moved, e = course.Moved(all, at(0, 0))
	gives(t, "by nothing", moved, e, all)
}

func TestP2_6MovedTooFar(t *testing.T) {
	for _, x := range []struct {
		name   string
		change func(h *course.Hole)
		by     api.Place
	}{
		{"to the right", func(*course.Hole) {}, at(999881, 0)},
		{"to the left", func(*course.Hole) {}, at(-999991, 0)},
		{"up", func(*course.Hole) {}, at(0, 999981)},
		{"down", func(*course.Hole) {}, at(0, -999981)},
		{"by as much as possible", func(*course.Hole) {}, at(1000000, 1000000)},
		{"the line alone", func(h *course.Hole) { h.Line[1] = at(0, 999999) }, at(0, 2)},
		{"the last corner of the last area alone", func(h *course.Hole) {
			h.Areas[3].Kind, h.Areas[3].Corners[3] = "rough", at(-999999, 20)
		}, at(-2, 0)},
		{"the tee and the cup too", func(h *course.Hole) {
			*h = course.Hole{Name: "a", Tee: at(999999, 0), Cup: at(999999, 0), Areas: []course.Area{{Kind: "green", Corners: box(999998, 0, 999999, 1)}}}
		}, at(2, 0)},
	} {
		h := lined()
		x.change(&h)
		is(t, x.name, course.CheckHole(h), api.OK)
		moved, e := course.Moved(h, x.by)
		fails(t, x.name, moved, e, api.ErrRange)
	}
	for _, by := range []api.Place{far, at(-1000001, 0), at(math.MaxInt, math.MinInt), at(math.MinInt, math.MaxInt)} {
		moved, e := course.Moved(one(), by)
		fails(t, "by a place that is none", moved, e, api.ErrRange)
	}
	// A hole at one end of the map would come to the other end.
	h := transformed(one(), func(x, y int) api.Place { return at(x-999990, y) })
	moved, e := course.Moved(h, at(1000001, 0))
	fails(t, "by a place that is none", moved, e, api.ErrRange)
	moved, e = course.Moved(h, at(1000000, 0))
	gives(t, "by a place at the limit", moved, e, transformed(one(), func(x, y int) api.Place { return at(x+10, y) }))
}

func TestP2_6Turned(t *testing.T) {
	ways := []func(x, y int) api.Place{
		at,
		func(x, y int) api.Place { return at(-y, x) },
		func(x, y int) api.Place { return at(-x, -y) },
		func(x, y int) api.Place { return at(y, -x) },
	}
	h := lined()
	for _, x := range []struct{ quarters, way int }{
		{0, 0}, {1, 1}, {2, 2}, {3, 3}, {4, 0}, {5, 1}, {6, 2}, {7, 3}, {-1, 3}, {-2, 2}, {-3, 1}, {-4, 0}, {-5, 3}, {1000001, 1}, {-1000001, 3},
		{math.MaxInt, 3}, {math.MaxInt - 1, 2}, {math.MinInt, 0}, {math.MinInt + 1, 1},
	} {
		turned, e := course.Turned(h, x.quarters)
		gives(t, "Turned", turned, e, transformed(h, ways[x.way]))
	}
	turned, e := course.Turned(one(), 1)
	gives(t, "the cup of the example", turned.Cup, e, at(0, 100))
	turned, e = course.Turned(broad(), 1)
	gives(t, "as much as there may be", turned, e, transformed(broad(), ways[1]))
}

func TestP2_6Mirrored(t *testing.T) {
	for _, h := range []course.Hole{one(), lined(), broad()} {
		mirrored, e := course.Mirrored(h)
		gives(t, "Mirrored", mirrored, e, transformed(h, func(x, y int) api.Place { return at(-x, y) }))
		again, e := course.Mirrored(mirrored)
		gives(t, "Mirrored twice", again, e, h)
	}
}

func TestP2_6RandomHoles(t *testing.T) {
	random := rand.New(rand.NewSource(11))
	for range 100 {
		h, by := randomHole(random, 500), randomPlace(random, 1000)
		moved, e := course.Moved(h, by)
		gives(t, "Moved", moved, e, transformed(h, func(x, y int) api.Place { return at(x+by.X, y+by.Y) }))
		turned, e := course.Turned(h, 3)
		gives(t, "Turned", turned, e, transformed(h, func(x, y int) api.Place { return at(y, -x) }))
		mirrored, e := course.Mirrored(h)
		gives(t, "Mirrored", mirrored, e, transformed(h, func(x, y int) api.Place { return at(-x, y) }))
	}
}
