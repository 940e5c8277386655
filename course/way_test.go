package course_test

import (
	"math/big"
	"math/rand"
	"slices"
	"strings"
	"testing"

	"niblick/api"
	"niblick/course"
)

// point is one whose coordinates may be no integers.
type point struct {
	x, y *big.Rat
}

func pointAlong(a, b api.Place, t *big.Rat) point {
	part := func(from, to int) *big.Rat {
		x := new(big.Rat).Mul(t, big.NewRat(int64(to-from), 1))
		return x.Add(x, big.NewRat(int64(from), 1))
	}
	return point{part(a.X, b.X), part(a.Y, b.Y)}
}

// turnAt returns the turn of the way from c to d and on to a point.
func turnAt(c, d api.Place, p point) int {
	left := new(big.Rat).Sub(p.y, big.NewRat(int64(c.Y), 1))
	right := new(big.Rat).Sub(p.x, big.NewRat(int64(c.X), 1))
	return left.Mul(left, big.NewRat(int64(d.X-c.X), 1)).Cmp(right.Mul(right, big.NewRat(int64(d.Y-c.Y), 1)))
}

// holds reports whether a point is in a polygon, its border included: by its winding number.
func holds(l []api.Place, p point) bool {
	winding := 0
	for i, c := range l {
		d := l[(i+1)%len(l)]
		turn := turnAt(c, d, p)
		left, right := min(c.X, d.X), max(c.X, d.X)
		low, high := min(c.Y, d.Y), max(c.Y, d.Y)
		if turn == 0 && atLeast(p.x, left) && atMost(p.x, right) && atLeast(p.y, low) && atMost(p.y, high) {
			return true
		}
		switch {
		case atMost(p.x, c.X) && !atMost(p.x, d.X) && turn < 0:
			winding--
		case atMost(p.x, d.X) && !atMost(p.x, c.X) && turn > 0:
			winding++
		}
	}
	return winding != 0
}

func atLeast(x *big.Rat, n int) bool { return x.Cmp(big.NewRat(int64(n), 1)) >= 0 }
func atMost(x *big.Rat, n int) bool  { return x.Cmp(big.NewRat(int64(n), 1)) <= 0 }

func kindAt(h course.Hole, p point) string {
	for _, kind := range allKinds {
		for _, area := range h.Areas {
			if area.Kind == kind && holds(area.Corners, p) {
				return kind
			}
		}
	}
	return "out"
}

// crossed follows the definition of the parts of a segment: all divisions, and the kind of the middle between two of them.
func crossed(h course.Hole, a, b api.Place) []course.Part {
	divisions := []*big.Rat{new(big.Rat), big.NewRat(1, 1)}
	for _, area := range h.Areas {
		for i, c := range area.Corners {
			if d := area.Corners[(i+1)%len(area.Corners)]; a != b {
				divisions = append(divisions, met(a, b, c, d)...)
			}
		}
	}
	slices.SortFunc(divisions, (*big.Rat).Cmp)
	var parts []course.Part
	for i, to := range divisions[1:] {
		from := divisions[i]
		if from.Cmp(to) == 0 {
			continue
		}
		middle := new(big.Rat).Add(from, to)
		kind := kindAt(h, pointAlong(a, b, middle.Mul(middle, big.NewRat(1, 2))))
		if n := len(parts); n > 0 && parts[n-1].Kind == kind {
			parts[n-1].To = rat(to)
			continue
		}
		parts = append(parts, course.Part{From: rat(from), To: rat(to), Kind: kind})
	}
	return parts
}

func rat(x *big.Rat) api.Rat {
	return api.Rat(strings.TrimSuffix(x.String(), "/1"))
}

func checkCrosses(t *testing.T, h course.Hole, a, b api.Place) []course.Part {
	t.Helper()
	parts, e := course.Crosses(h, a, b)
	want := crossed(h, a, b)
	if e != api.OK || !alike(parts, want) {
		t.Fatalf("from %v to %v in %v: got %v and the error %d, want %v", a, b, h, parts, e, want)
	}
	return parts
}

func TestP2_3Crosses(t *testing.T) {
	along := one()
	along.Areas = append(along.Areas, course.Area{Kind: "bunker", Corners: box(20, 5, 30, 15)}, course.Area{Kind: "bunker", Corners: box(30, 10, 36, 12)})
	for _, x := range []struct {
		name string
		h    course.Hole
		a, b api.Place
		want []course.Part
	}{
		{"the example", one(), at(0, 0), at(100, 0), []course.Part{{From: "0", To: "1/10", Kind: "rough"}, {From: "1/10", To: "2/5", Kind: "fairway"}, {From: "2/5", To: "1/2", Kind: "water"}, {From: "1/2", To: "9/10", Kind: "fairway"}, {From: "9/10", To: "1", Kind: "green"}}},
		{"out of bounds", one(), at(0, 0), at(0, 40), []course.Part{{From: "0", To: "1/2", Kind: "rough"}, {From: "1/2", To: "1", Kind: "out"}}},
		{"from out of bounds", one(), at(0, 40), at(0, -40), []course.Part{{From: "0", To: "1/4", Kind: "out"}, {From: "1/4", To: "3/4", Kind: "rough"}, {From: "3/4", To: "1", Kind: "out"}}},
		{"along a side", one(), at(0, 10), at(20, 10), []course.Part{{From: "0", To: "1/2", Kind: "rough"}, {From: "1/2", To: "1", Kind: "fairway"}}},
		{"along a side of all areas", one(), at(-20, 20), at(130, 20), []course.Part{{From: "0", To: "1/15", Kind: "out"}, {From: "1/15", To: "2/5", Kind: "rough"}, {From: "2/5", To: "7/15", Kind: "water"}, {From: "7/15", To: "14/15", Kind: "rough"}, {From: "14/15", To: "1", Kind: "out"}}},
		{"within a side", one(), at(42, 20), at(47, 20), []course.Part{{From: "0", To: "1", Kind: "water"}}},
		{"beside a side", one(), at(42, 21), at(47, 21), []course.Part{{From: "0", To: "1", Kind: "out"}}},
		{"a place", one(), at(45, 0), at(45, 0), []course.Part{{From: "0", To: "1", Kind: "water"}}},
		{"a place on a border", one(), at(40, 0), at(40, 0), []course.Part{{From: "0", To: "1", Kind: "water"}}},
		{"a place out", one(), at(-11, 0), at(-11, 0), []course.Part{{From: "0", To: "1", Kind: "out"}}},
		{"only up to a border", one(), at(30, 0), at(40, 0), []course.Part{{From: "0", To: "1", Kind: "fairway"}}},
		{"on from a border", one(), at(40, 0), at(30, 0), []course.Part{{From: "0", To: "1", Kind: "fairway"}}},
		{"past a corner", one(), at(100, 25), at(130, 10), []course.Part{{From: "0", To: "1/3", Kind: "out"}, {From: "1/3", To: "2/3", Kind: "rough"}, {From: "2/3", To: "1", Kind: "out"}}},
		{"touching a corner", one(), at(115, 25), at(125, 15), []course.Part{{From: "0", To: "1", Kind: "out"}}},
		{"through two corners", one(), at(80, 0), at(100, 0), []course.Part{{From: "0", To: "1/2", Kind: "fairway"}, {From: "1/2", To: "1", Kind: "green"}}},
		{"along two areas of a kind", along, at(15, 10), at(40, 10), []course.Part{{From: "0", To: "1/5", Kind: "fairway"}, {From: "1/5", To: "21/25", Kind: "bunker"}, {From: "21/25", To: "1", Kind: "fairway"}}},
		{"thirds", one(), at(0, 1), at(30, 31), []course.Part{{From: "0", To: "19/30", Kind: "rough"}, {From: "19/30", To: "1", Kind: "out"}}},
	} {
		parts, e := course.Crosses(x.h, x.a, x.b)
		gives(t, x.name, parts, e, x.want)
		checkCrosses(t, x.h, x.a, x.b)
	}
}

// A polygon whose straight angles and notches are on one line, so that segments on it run along sides that follow each other.
func TestP2_3CrossesAlongSides(t *testing.T) {
	h := one()
	h.Areas = append(h.Areas, course.Area{Kind: "bunker", Corners: []api.Place{
		at(0, 100), at(10, 100), at(20, 100), at(20, 110), at(30, 110), at(30, 100), at(40, 100), at(40, 90), at(50, 90), at(50, 100),
		at(60, 100), at(70, 110), at(80, 100), at(90, 80), at(100, 100), at(100, 200), at(0, 200),
	}})
	for _, x := range []struct {
		a, b api.Place
		want []course.Part
	}{
		{at(-10, 100), at(110, 100), []course.Part{
			{From: "0", To: "1/12", Kind: "out"}, {From: "1/12", To: "1/4", Kind: "bunker"}, {From: "1/4", To: "1/3", Kind: "out"},
			{From: "1/3", To: "7/12", Kind: "bunker"}, {From: "7/12", To: "3/4", Kind: "out"}, {From: "3/4", To: "11/12", Kind: "bunker"}, {From: "11/12", To: "1", Kind: "out"},
		}},
		{at(5, 100), at(15, 100), []course.Part{{From: "0", To: "1", Kind: "bunker"}}},
		{at(22, 100), at(29, 100), []course.Part{{From: "0", To: "1", Kind: "out"}}},
		{at(20, 100), at(30, 100), []course.Part{{From: "0", To: "1", Kind: "out"}}},
		{at(35, 100), at(45, 100), []course.Part{{From: "0", To: "1", Kind: "bunker"}}},
		{at(60, 110), at(80, 110), []course.Part{{From: "0", To: "1", Kind: "bunker"}}},
		{at(60, 80), at(120, 80), []course.Part{{From: "0", To: "1", Kind: "out"}}},
		{at(100, 150), at(100, 250), []course.Part{{From: "0", To: "1/2", Kind: "bunker"}, {From: "1/2", To: "1", Kind: "out"}}},
		{at(30, 120), at(30, 80), []course.Part{{From: "0", To: "1/2", Kind: "bunker"}, {From: "1/2", To: "1", Kind: "out"}}},
		{at(60, 105), at(80, 105), []course.Part{{From: "0", To: "1/4", Kind: "bunker"}, {From: "1/4", To: "3/4", Kind: "out"}, {From: "3/4", To: "1", Kind: "bunker"}}},
	} {
		parts, e := course.Crosses(h, x.a, x.b)
		gives(t, "parts", parts, e, x.want)
		checkCrosses(t, h, x.a, x.b)
		checkCrosses(t, h, x.b, x.a)
	}
}

func TestP2_3CrossesByDefinition(t *testing.T) {
	random := rand.New(rand.NewSource(5))
	several := 0
	for i := range 1500 {
		h := randomHole(random, 3+i%6)
		for range 8 {
			if parts := checkCrosses(t, h, randomPlace(random, 9), randomPlace(random, 9)); len(parts) > 3 {
				several++
			}
		}
		// Segments through corners and along sides.
		corners := h.Areas[random.Intn(len(h.Areas))].Corners
		a, b := corners[0], corners[1+random.Intn(2)]
		checkCrosses(t, h, a, b)
		checkCrosses(t, h, at(2*a.X-b.X, 2*a.Y-b.Y), at(2*b.X-a.X, 2*b.Y-a.Y))
	}
	if several < 1000 {
		t.Errorf("only %d segments with several parts", several)
	}
}

// Divisions of large holes are closer together than numbers of 64 bits tell.
func TestP2_3LargeCrossesByDefinition(t *testing.T) {
	random := rand.New(rand.NewSource(6))
	for range 100 {
		h := randomHole(random, api.MaxPlace)
		a, b := randomPlace(random, api.MaxPlace), randomPlace(random, api.MaxPlace)
		for i := range h.Areas {
			if i > 0 && random.Intn(2) == 0 {
				// Almost the same area once more.
				l := slices.Clone(h.Areas[0].Corners)
				l[0].X -= l[0].X / 500000
				if isSimple(l) {
					h.Areas[i].Corners = l
				}
			}
		}
		checkCrosses(t, h, a, b)
		checkCrosses(t, h, h.Tee, b)
	}
	h := one()
	h.Areas = []course.Area{
		{Kind: "rough", Corners: box(-1000000, -1000000, 1000000, 1000000)},
		{Kind: "green", Corners: []api.Place{at(-1000000, -999999), at(1000000, 999999), at(1000000, 1000000)}},
		{Kind: "water", Corners: []api.Place{at(-999999, -999999), at(1000000, 999997), at(1000000, 999998)}},
	}
	h.Tee, h.Cup = at(1000000, 999999), at(1000000, 999999)
	for range 50 {
		checkCrosses(t, h, randomPlace(random, api.MaxPlace), randomPlace(random, api.MaxPlace))
		checkCrosses(t, h, at(-1000000, -1000000+random.Intn(3)), at(1000000, 999990+random.Intn(10)))
	}
}

func TestP2_3CrossesAtTheLimits(t *testing.T) {
	h := broad()
	parts, e := course.Crosses(h, at(-1000000, -1000000), at(1000000, 1000000))
	gives(t, "as much as there may be", parts, e, crossed(h, at(-1000000, -1000000), at(1000000, 1000000)))
	checkCrosses(t, h, at(0, 2), at(64, 2))
}

func TestP2_3CrossesErrors(t *testing.T) {
	parts, e := course.Crosses(unnamed(), far, far)
	fails(t, "the hole before a", parts, e, api.ErrName)
	for _, p := range []api.Place{far, at(-1000001, 0)} {
		parts, e = course.Crosses(one(), p, at(0, 0))
		fails(t, "a", parts, e, api.ErrRange)
		parts, e = course.Crosses(one(), at(0, 0), p)
		fails(t, "b", parts, e, api.ErrRange)
	}
}

func TestP2_3Entry(t *testing.T) {
	for _, x := range []struct {
		a, b api.Place
		kind string
		want api.Rat
	}{
		{at(0, 0), at(100, 0), "water", "2/5"},
		{at(0, 0), at(100, 0), "fairway", "1/2"},
		{at(0, 0), at(100, 0), "rough", "0"},
		{at(0, 0), at(100, 0), "green", "9/10"},
		{at(100, 0), at(0, 0), "fairway", "3/5"},
		{at(0, 40), at(0, -40), "out", "3/4"},
		{at(0, 40), at(0, 0), "out", "0"},
		{at(45, 0), at(45, 0), "water", "0"},
		{at(121, 0), at(121, 0), "out", "0"},
	} {
		part, e := course.Entry(one(), x.a, x.b, x.kind)
		gives(t, "Entry of "+x.kind, part, e, x.want)
	}
	for _, kind := range []string{"bunker", "tee", "out"} {
		part, e := course.Entry(one(), at(0, 0), at(100, 0), kind)
		fails(t, "Entry of "+kind, part, e, api.ErrNone)
	}
	part, e := course.Entry(one(), at(45, 0), at(45, 0), "fairway")
	fails(t, "Entry of another kind", part, e, api.ErrNone)
	part, e = course.Entry(one(), at(30, 0), at(40, 0), "water")
	fails(t, "Entry of a single point", part, e, api.ErrNone)
}

// The last part of a kind, of all kinds.
func TestP2_3EntryByParts(t *testing.T) {
	random := rand.New(rand.NewSource(7))
	for range 300 {
		h, a, b := randomHole(random, 6), randomPlace(random, 8), randomPlace(random, 8)
		last := map[string]api.Rat{}
		for _, part := range crossed(h, a, b) {
			last[part.Kind] = part.From
		}
		for _, kind := range append([]string{"out"}, allKinds...) {
			part, e := course.Entry(h, a, b, kind)
			if from, ok := last[kind]; ok {
				gives(t, "Entry", part, e, from)
			} else {
				fails(t, "Entry", part, e, api.ErrNone)
			}
		}
	}
}

func TestP2_3EntryErrors(t *testing.T) {
	part, e := course.Entry(unnamed(), far, far, "")
	fails(t, "the hole before a", part, e, api.ErrName)
	part, e = course.Entry(one(), far, at(0, 0), "")
	fails(t, "a before the kind", part, e, api.ErrRange)
	part, e = course.Entry(one(), at(0, 0), far, "")
	fails(t, "b before the kind", part, e, api.ErrRange)
	for _, kind := range []string{"", "sand", "Out", "water "} {
		part, e = course.Entry(one(), at(0, 0), at(100, 0), kind)
		fails(t, "the kind", part, e, api.ErrKind)
	}
}
