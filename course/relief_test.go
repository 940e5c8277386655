package course_test

import (
	"cmp"
	"math"
	"math/rand"
	"slices"
	"testing"

	"niblick/api"
	"niblick/course"
)

// reliefHole returns H with more areas: rough far away, a small rough beside H, and a bunker under the green.
func reliefHole() course.Hole {
	h := one()
	h.Areas = append(h.Areas,
		course.Area{Kind: "rough", Corners: box(200, 200, 210, 210)},
		course.Area{Kind: "rough", Corners: box(123, 7, 124, 8)},
		course.Area{Kind: "bunker", Corners: box(97, -3, 103, 3)})
	return h
}

func TestP2_4Relief(t *testing.T) {
	for _, x := range []struct {
		name  string
		p     api.Place
		kind  string
		reach int
		want  api.Place
	}{
		{"the example", at(45, 0), "water", 10, at(39, 0)},
		{"as far as the reach", at(45, 0), "water", 6, at(39, 0)},
		{"as far as possible", at(45, 0), "water", 20, at(39, 0)},
		{"already relieved", at(0, 0), "water", 0, at(0, 0)},
		{"already relieved, with a reach", at(0, 0), "water", 20, at(0, 0)},
		{"in water, but not in the kind", at(45, 0), "fairway", 0, at(45, 0)},
		{"not out", at(45, 0), "out", 3, at(45, 0)},
		{"from a border", at(40, 0), "water", 1, at(39, 0)},
		{"the least Y of equal X", at(100, 0), "green", 6, at(100, -6)},
		{"from the place of the cup", at(100, 0), "green", 20, at(100, -6)},
		{"round a corner", at(197, 197), "out", 5, at(200, 200)},
		{"as near to the cup", at(125, 0), "out", 8, at(124, 7)},
		{"from a kind where it is not", at(125, 0), "tee", 8, at(124, 7)},
	} {
		place, e := course.Relief(reliefHole(), x.p, x.kind, x.reach)
		gives(t, x.name, place, e, x.want)
	}
	round := reliefHole()
	round.Areas[2].Corners = box(97, -3, 103, 3)
	place, e := course.Relief(round, round.Cup, "green", 4)
	gives(t, "the least X of four places", place, e, at(96, 0))
}

func TestP2_4NoRelief(t *testing.T) {
	for _, x := range []struct {
		name  string
		p     api.Place
		kind  string
		reach int
	}{
		{"too far", at(45, 0), "water", 5},
		{"only nearer to the cup", at(0, 0), "rough", 20},
		{"out beside the rough", at(120, 0), "rough", 20},
		{"no reach in the kind", at(45, 0), "water", 0},
		{"no reach out of bounds", at(125, 0), "water", 0},
		{"the green too far", at(100, 0), "green", 5},
		{"a corner too far", at(197, 197), "out", 4},
		{"a place as near to the cup too far", at(125, 0), "out", 7},
		{"far out of bounds", at(-1000000, 1000000), "out", 20},
	} {
		place, e := course.Relief(reliefHole(), x.p, x.kind, x.reach)
		fails(t, x.name, place, e, api.ErrNone)
	}
}

// relieved follows the definition of relief place by place.
func relieved(h course.Hole, p api.Place, kind string, reach int) []api.Place {
	square := func(a, b api.Place) int { return (a.X-b.X)*(a.X-b.X) + (a.Y-b.Y)*(a.Y-b.Y) }
	var l []api.Place
	for x := p.X - reach; x <= p.X+reach; x++ {
		for y := p.Y - reach; y <= p.Y+reach; y++ {
			q := at(x, y)
			other, _, e := course.Locate(h, q)
			if e == api.OK && other != kind && other != "out" && square(p, q) <= reach*reach && square(q, h.Cup) >= square(p, h.Cup) {
				l = append(l, q)
			}
		}
	}
	slices.SortFunc(l, func(a, b api.Place) int {
		return cmp.Or(cmp.Compare(square(p, a), square(p, b)), cmp.Compare(a.X, b.X), cmp.Compare(a.Y, b.Y))
	})
	return l
}

func checkRelief(t *testing.T, h course.Hole, p api.Place, kind string, reach int) {
	t.Helper()
	place, e := course.Relief(h, p, kind, reach)
	if l := relieved(h, p, kind, reach); len(l) > 0 {
		gives(t, "Relief", place, e, l[0])
	} else {
		fails(t, "Relief", place, e, api.ErrNone)
	}
}

func TestP2_4ReliefByDefinition(t *testing.T) {
	random := rand.New(rand.NewSource(8))
	kinds := append([]string{"out"}, allKinds...)
	for range 600 {
		h := randomHole(random, 7)
		for range 4 {
			p := randomPlace(random, 9)
			kind := kinds[random.Intn(len(kinds))]
			if random.Intn(2) == 0 {
				kind, _, _ = course.Locate(h, p)
			}
			checkRelief(t, h, p, kind, random.Intn(9))
		}
	}
	for range 20 {
		h := randomHole(random, 25)
		p := randomPlace(random, 25)
		kind, _, _ := course.Locate(h, p)
		checkRelief(t, h, p, kind, 20)
	}
}

// At the limits of coordinates there are places beyond which there are none.
func TestP2_4ReliefAtTheLimits(t *testing.T) {
	h := one()
	h.Areas = append(h.Areas,
		course.Area{Kind: "rough", Corners: box(-1000000, -1000000, 1000000, 1000000)},
		course.Area{Kind: "bunker", Corners: box(999990, 999990, 1000000, 1000000)},
		course.Area{Kind: "bunker", Corners: box(-1000000, -1000000, -999980, -999980)},
		course.Area{Kind: "water", Corners: []api.Place{at(-1000000, 1000000), at(-1000000, 999900), at(-999900, 1000000)}})
	place, e := course.Relief(h, at(1000000, 1000000), "bunker", 20)
	fails(t, "only nearer to the cup", place, e, api.ErrNone)
	h.Cup, h.Areas[2].Corners = at(1000000, 1000000), box(1000000, 1000000, 999999, 999998)
	for _, p := range []api.Place{at(1000000, 1000000), at(1000000, 999999), at(999995, 999990), at(-1000000, -1000000), at(-999985, -999990), at(-999999, 999990)} {
		for _, kind := range []string{"bunker", "green", "water"} {
			checkRelief(t, h, p, kind, 20)
		}
	}
}

func TestP2_4ReliefErrors(t *testing.T) {
	type arguments struct {
		h     course.Hole
		p     api.Place
		kind  string
		reach int
	}
	inOrder(t, func() arguments { return arguments{one(), at(45, 0), "water", 10} }, func(t *testing.T, x arguments, want api.Errno) {
		place, e := course.Relief(x.h, x.p, x.kind, x.reach)
		fails(t, "Relief", place, e, want)
	}, []defect[arguments]{
		{"the hole", func(x *arguments) { x.h.Name = "" }, api.ErrName},
		{"the place", func(x *arguments) { x.p = far }, api.ErrRange},
		{"the kind", func(x *arguments) { x.kind = "sand" }, api.ErrKind},
		{"the reach", func(x *arguments) { x.reach = 21 }, api.ErrRange},
	})
	for _, reach := range []int{-1, 21, math.MinInt, math.MaxInt} {
		place, e := course.Relief(one(), at(0, 0), "water", reach)
		fails(t, "the reach", place, e, api.ErrRange)
	}
	for _, kind := range []string{"", "none", "WATER"} {
		place, e := course.Relief(one(), at(0, 0), kind, 5)
		fails(t, "the kind", place, e, api.ErrKind)
	}
}
