package course_test

import (
	"math/big"
	"math/rand"
	"slices"
	"testing"

	"niblick/api"
	"niblick/course"
)

func across(a, b, c, d api.Place) int64 {
	return int64(b.X-a.X)*int64(d.Y-c.Y) - int64(b.Y-a.Y)*int64(d.X-c.X)
}

// along returns how far along the line from a to b a place on it is.
func along(a, b, c api.Place) *big.Rat {
	if a.X != b.X {
		return big.NewRat(int64(c.X-a.X), int64(b.X-a.X))
	}
	return big.NewRat(int64(c.Y-a.Y), int64(b.Y-a.Y))
}

func isPart(t *big.Rat) bool {
	return t.Sign() >= 0 && t.Cmp(big.NewRat(1, 1)) <= 0
}

// met returns where a segment from a to b meets one from c to d: nowhere, at one part of it, or from one part to another one.
func met(a, b, c, d api.Place) []*big.Rat {
	if bottom := across(a, b, c, d); bottom != 0 {
		t, u := big.NewRat(across(a, c, c, d), bottom), big.NewRat(across(a, c, a, b), bottom)
		if isPart(t) && isPart(u) {
			return []*big.Rat{t}
		}
		return nil
	}
	if across(a, b, a, c) != 0 {
		return nil
	}
	ends := []*big.Rat{new(big.Rat), big.NewRat(1, 1), along(a, b, c), along(a, b, d)}
	from, to := slices.MinFunc(ends[2:], (*big.Rat).Cmp), slices.MaxFunc(ends[2:], (*big.Rat).Cmp)
	from = slices.MaxFunc([]*big.Rat{from, ends[0]}, (*big.Rat).Cmp)
	to = slices.MinFunc([]*big.Rat{to, ends[1]}, (*big.Rat).Cmp)
	switch from.Cmp(to) {
	case -1:
		return []*big.Rat{from, to}
	case 0:
		return []*big.Rat{from}
	}
	return nil
}

// isSimple follows the definition of a simple polygon word by word.
func isSimple(l []api.Place) bool {
	corner := func(i int) api.Place { return l[i%len(l)] }
	for i := range l {
		if corner(i) == corner(i+1) {
			return false
		}
	}
	for i := range l {
		for j := range i {
			allowed := 0
			if i == j+1 || i-j == len(l)-1 {
				allowed = 1
			}
			if len(met(corner(i), corner(i+1), corner(j), corner(j+1))) != allowed {
				return false
			}
		}
	}
	return true
}

// where follows the definition of inside word by word, for small polygons: the half-line is so flat that it meets no corner.
func where(l []api.Place, p api.Place) int {
	count := 0
	for i, c := range l {
		d := l[(i+1)%len(l)]
		if c == p || across(c, d, c, p) == 0 && isPart(along(c, d, p)) {
			return 0
		}
		count += len(met(p, at(p.X+1000, p.Y+1), c, d))
	}
	return count%2*2 - 1
}

func TestP2_1Turn(t *testing.T) {
	for _, x := range []struct {
		a, b, c api.Place
		want    int
	}{
		{at(0, 0), at(1, 0), at(1, 1), 1},
		{at(0, 0), at(1, 0), at(1, -1), -1},
		{at(0, 0), at(1, 1), at(5, 5), 0},
		{at(0, 0), at(1, 1), at(-5, -5), 0},
		{at(3, 4), at(3, 4), at(9, 1), 0},
		{at(3, 4), at(9, 1), at(9, 1), 0},
		{at(3, 4), at(9, 1), at(3, 4), 0},
		{at(1, 1), at(1, 1), at(1, 1), 0},
		{at(2, 3), at(5, 4), at(8, 5), 0},
		{at(2, 3), at(5, 4), at(8, 6), 1},
		{at(2, 3), at(5, 4), at(8, 4), -1},
		{at(-1000000, -1000000), at(1000000, 1000000), at(999999, 1000000), 1},
		{at(-1000000, -1000000), at(1000000, 1000000), at(1000000, 999999), -1},
		{at(-1000000, 1000000), at(1000000, -1000000), at(0, 0), 0},
		{at(-1000000, -1000000), at(1000000, 999999), at(0, -1), -1},
		{at(-1000000, -1000000), at(1000000, 999999), at(0, 0), 1},
	} {
		n, e := course.Turn(x.a, x.b, x.c)
		gives(t, "Turn", n, e, x.want)
	}
}

func TestP2_1TurnErrors(t *testing.T) {
	for _, p := range []api.Place{at(1000001, 0), at(-1000001, 0), at(0, 1000001), at(0, -1000001)} {
		n, e := course.Turn(p, at(0, 0), at(1, 0))
		fails(t, "a", n, e, api.ErrRange)
		n, e = course.Turn(at(0, 0), p, at(1, 0))
		fails(t, "b", n, e, api.ErrRange)
		n, e = course.Turn(at(0, 0), at(1, 0), p)
		fails(t, "c", n, e, api.ErrRange)
	}
}

var polygonErrors = []struct {
	name string
	l    []api.Place
	want api.Errno
}{
	{"nil", nil, api.ErrShape},
	{"empty", []api.Place{}, api.ErrShape},
	{"two corners", []api.Place{at(0, 0), at(1, 0)}, api.ErrShape},
	{"two corners that are far", []api.Place{far, far}, api.ErrShape},
	{"65 corners", comb(65), api.ErrMany},
	{"65 corners that are far", slices.Repeat([]api.Place{far}, 65), api.ErrMany},
	{"65 equal corners", make([]api.Place, 65), api.ErrMany},
	{"X too great", []api.Place{at(0, 0), at(1000001, 0), at(0, 1)}, api.ErrRange},
	{"X too small", []api.Place{at(-1000001, 0), at(1, 0), at(0, 1)}, api.ErrRange},
	{"Y too great", []api.Place{at(0, 0), at(1, 0), at(0, 1000001)}, api.ErrRange},
	{"Y too small", []api.Place{at(0, 0), at(1, 0), at(0, -1000001)}, api.ErrRange},
	{"far and not simple", []api.Place{at(0, 0), at(0, 0), far}, api.ErrRange},
	{"the bow of the examples", []api.Place{at(0, 0), at(2, 2), at(2, 0), at(0, 2)}, api.ErrPolygon},
	{"three on a line", []api.Place{at(0, 0), at(1, 0), at(2, 0)}, api.ErrPolygon},
	{"three equal corners", make([]api.Place, 3), api.ErrPolygon},
	{"the first two are equal", []api.Place{at(0, 0), at(0, 0), at(1, 0), at(0, 1)}, api.ErrPolygon},
	{"two in the middle are equal", []api.Place{at(0, 0), at(1, 0), at(1, 0), at(0, 1)}, api.ErrPolygon},
	{"the last one is the first one", []api.Place{at(0, 0), at(1, 0), at(0, 1), at(0, 0)}, api.ErrPolygon},
	{"a side runs back", []api.Place{at(0, 0), at(4, 0), at(2, 0), at(2, 3)}, api.ErrPolygon},
	{"a side runs back beyond", []api.Place{at(2, 0), at(4, 0), at(0, 0), at(2, 3)}, api.ErrPolygon},
	{"the last side runs back along the first one", []api.Place{at(0, 0), at(4, 0), at(4, 4), at(2, 0)}, api.ErrPolygon},
	{"the first side runs back along the last one", []api.Place{at(0, 0), at(2, 0), at(4, 4), at(4, 0)}, api.ErrPolygon},
	{"a corner on a side", []api.Place{at(0, 0), at(4, 0), at(4, 4), at(2, 0), at(0, 4)}, api.ErrPolygon},
	{"a side through a corner", []api.Place{at(0, 4), at(2, 0), at(4, 4), at(4, 0), at(0, 0)}, api.ErrPolygon},
	{"a corner twice", []api.Place{at(0, 0), at(2, 0), at(1, 1), at(2, 2), at(0, 2), at(1, 1)}, api.ErrPolygon},
	{"sides that cross, far apart in the list", []api.Place{at(0, 0), at(9, 0), at(9, 9), at(5, 9), at(5, -1), at(4, -1), at(4, 9), at(0, 9)}, api.ErrPolygon},
	{"a side on another one", []api.Place{at(0, 0), at(9, 0), at(9, 5), at(6, 5), at(6, 0), at(3, 0), at(3, 5), at(0, 5)}, api.ErrPolygon},
	{"the last side meets one", []api.Place{at(2, -2), at(0, 0), at(4, 0), at(4, 4), at(2, 2)}, api.ErrPolygon},
	{"the last side meets the one before its neighbour", []api.Place{at(0, 0), at(9, 0), at(9, 9), at(5, 9), at(10, 5)}, api.ErrPolygon},
}

func TestP2_1CheckPolygonErrors(t *testing.T) {
	for _, x := range polygonErrors {
		is(t, x.name, course.CheckPolygon(x.l), x.want)
		n, e := course.Contains(x.l, at(0, 0))
		fails(t, x.name, n, e, x.want)
		n, e = course.Contains(x.l, far)
		fails(t, x.name, n, e, x.want)
		n, e = course.Twice(x.l)
		fails(t, x.name, n, e, x.want)
	}
	n, e := course.Contains(box(0, 0, 2, 2), far)
	fails(t, "a place that is far", n, e, api.ErrRange)
	n, e = course.Contains(box(0, 0, 2, 2), at(-1000001, 0))
	fails(t, "a place that is far", n, e, api.ErrRange)
}

func TestP2_1SimplePolygons(t *testing.T) {
	for _, l := range [][]api.Place{
		{at(0, 0), at(1, 0), at(0, 1)},
		{at(0, 0), at(0, 1), at(1, 0)},
		{at(0, 0), at(1, 0), at(2, 0), at(1, 3)},
		{at(0, 0), at(6, 0), at(6, 6), at(3, 2), at(0, 6)},
		{at(0, 0), at(3, 0), at(1, 1), at(0, 3)},
		{at(1, 0), at(2, 0), at(2, 2), at(0, 2), at(0, 0)},
		{at(0, 0), at(5, 0), at(5, 3), at(4, 3), at(4, 1), at(3, 1), at(3, 3), at(0, 3)},
		box(-1000000, -1000000, 1000000, 1000000),
		{at(-1000000, -1000000), at(1000000, 1000000), at(999999, 1000000)},
		comb(63),
		comb(64),
	} {
		is(t, "a simple polygon", course.CheckPolygon(l), api.OK)
	}
}

// All polygons with a few corners on a small grid have many corners on sides, and many sides on one line.
func TestP2_1CheckPolygonByDefinition(t *testing.T) {
	random := rand.New(rand.NewSource(1))
	simple := 0
	for i := range 30000 {
		l := make([]api.Place, 3+i%5)
		for j := range l {
			l[j] = randomPlace(random, 1+i%4)
		}
		want := api.OK
		if !isSimple(l) {
			want = api.ErrPolygon
		} else {
			simple++
		}
		if e := course.CheckPolygon(l); e != want {
			t.Fatalf("%v: got the error %d, want %d", l, e, want)
		}
	}
	if simple < 2000 {
		t.Errorf("only %d simple polygons", simple)
	}
}

func TestP2_1LargePolygonsByDefinition(t *testing.T) {
	random := rand.New(rand.NewSource(2))
	for i := range 2000 {
		l := make([]api.Place, 3+i%4)
		for j := range l {
			l[j] = randomPlace(random, api.MaxPlace)
		}
		if i%2 == 0 {
			// A corner in the middle of a side, or next to it.
			l[0] = at((l[1].X+l[2].X)/2, (l[1].Y+l[2].Y)/2)
		}
		is(t, "a large polygon", course.CheckPolygon(l) == api.OK, isSimple(l))
	}
}

func TestP2_1Contains(t *testing.T) {
	l := []api.Place{at(0, 0), at(6, 0), at(6, 6), at(3, 2), at(0, 6)}
	for _, x := range []struct {
		p    api.Place
		want int
	}{
		{at(3, 1), 1}, {at(3, 2), 0}, {at(3, 3), -1}, {at(0, 3), 0}, {at(1, 3), 1}, {at(5, 4), 1}, {at(-1, 0), -1},
		{at(7, 6), -1}, {at(6, 6), 0}, {at(4, 5), -1}, {at(-1, 2), -1}, {at(1, 2), 1}, {at(-1, 6), -1}, {at(3, 6), -1},
		{at(0, 6), 0}, {at(0, 7), -1}, {at(3, -1), -1}, {at(1000000, 2), -1}, {at(-1000000, -1000000), -1},
	} {
		n, e := course.Contains(l, x.p)
		gives(t, "Contains", n, e, x.want)
	}
	fairway := box(10, -10, 90, 10)
	for _, x := range []struct {
		p    api.Place
		want int
	}{{at(50, 0), 1}, {at(10, 0), 0}, {at(9, 0), -1}} {
		n, e := course.Contains(fairway, x.p)
		gives(t, "the fairway of the examples", n, e, x.want)
	}
	all := box(-1000000, -1000000, 1000000, 1000000)
	n, e := course.Contains(all, at(1000000, -1000000))
	gives(t, "a corner of all places", n, e, 0)
	n, e = course.Contains(all, at(999999, -999999))
	gives(t, "inside all places", n, e, 1)
	sliver := []api.Place{at(-1000000, -1000000), at(1000000, 1000000), at(1000000, 999998)}
	for _, x := range []struct {
		p    api.Place
		want int
	}{{at(0, 0), 0}, {at(0, -1), 0}, {at(500000, 499999), 1}, {at(500000, 499998), -1}, {at(500000, 500001), -1}} {
		n, e := course.Contains(sliver, x.p)
		gives(t, "a sliver", n, e, x.want)
	}
}

// Twice the area of a polygon is twice the number of places inside, and that of places on its border, less 2 (Pick).
func TestP2_1ContainsAndTwiceByDefinition(t *testing.T) {
	random := rand.New(rand.NewSource(3))
	for i := range 400 {
		reach := 2 + i%5
		l := randomPolygon(random, reach)
		twice := -2
		for x := -reach - 1; x <= reach+1; x++ {
			for y := -reach - 1; y <= reach+1; y++ {
				want := where(l, at(x, y))
				n, e := course.Contains(l, at(x, y))
				if n != want || e != api.OK {
					t.Fatalf("%v and %d, %d: got %d and the error %d, want %d", l, x, y, n, e, want)
				}
				twice += n + 1
			}
		}
		n, e := course.Twice(l)
		gives(t, "Twice", n, e, twice)
	}
}

func TestP2_1Twice(t *testing.T) {
	for _, x := range []struct {
		l    []api.Place
		want int
	}{
		{box(10, -10, 90, 10), 3200},
		{[]api.Place{at(0, 0), at(6, 0), at(6, 6), at(3, 2), at(0, 6)}, 48},
		{[]api.Place{at(0, 0), at(0, 3), at(4, 0)}, 12},
		{[]api.Place{at(0, 0), at(4, 0), at(0, 3)}, 12},
		{[]api.Place{at(5, 5), at(6, 5), at(5, 6)}, 1},
		{box(-1000000, -1000000, 1000000, 1000000), 8000000000000},
		{comb(64), 1570},
	} {
		n, e := course.Twice(x.l)
		gives(t, "Twice", n, e, x.want)
	}
}
