package rating_test

import (
	"math"
	"math/big"
	"math/rand"
	"slices"
	"strings"
	"testing"

	"niblick/api"
	"niblick/card"
	"niblick/rating"
)

// ordered checks that one rating is at most another one.
func ordered(t *testing.T, what string, less, more rating.Course, q question) {
	t.Helper()
	a, e := rating.Hole(less, q.tee, q.hole, q.level)
	b, f := rating.Hole(more, q.tee, q.hole, q.level)
	if e != api.OK || f != api.OK {
		t.Errorf("%s: the errors %d and %d", what, e, f)
	}
	if bigRat(a).Cmp(bigRat(b)) > 0 {
		t.Errorf("%s: %s became %s", what, a, b)
	}
}

func TestP3_5MoreOfAnything(t *testing.T) {
	random := rand.New(rand.NewSource(6))
	for range 600 {
		less := randomCourse(random, 3)
		q := randomQuestion(random, less)
		site := less.Sites[q.hole]
		more := func(change func(s *rating.Site)) rating.Course {
			c := copied(less)
			change(&c.Sites[q.hole])
			return c
		}
		by := bigRat(randomBetween(random, 0, 50, 3))
		ordered(t, "wind", less, more(func(s *rating.Site) { s.Wind = rat(plus(bigRat(site.Wind), by)) }), q)
		ordered(t, "rise", less, more(func(s *rating.Site) { s.Rise = rat(plus(bigRat(site.Rise), by)) }), q)
		ordered(t, "lay-ups", less, more(func(s *rating.Site) { s.Layup = rat(plus(bigRat(site.Layup), by)) }), q)
		ordered(t, "roll", more(func(s *rating.Site) { s.Roll = rat(plus(bigRat(site.Roll), by)) }), less, q)
		for i, o := range site.Obstacles {
			ordered(t, "an obstacle", less, more(func(s *rating.Site) { s.Obstacles[i].Value += random.Intn(11 - o.Value) }), q)
		}
		longer := copied(less)
		longer.Tees[q.tee].Lengths[q.hole] += random.Intn(300)
		ordered(t, "a length", less, longer, q)
	}
}

func TestP3_5NinesAddUp(t *testing.T) {
	random := rand.New(rand.NewSource(7))
	for range 300 {
		c := randomCourse(random, 3)
		q := randomQuestion(random, c)
		exact, e := rating.Exact(c, q.tee, q.level)
		out, in, f := rating.Nines(c, q.tee, q.level)
		both, g := card.Add(out, in)
		is(t, "errors", [3]api.Errno{e, f, g}, [3]api.Errno{})
		is(t, "both nines", both, exact)
	}
}

func TestP3_5IndicesAreNumbers(t *testing.T) {
	random := rand.New(rand.NewSource(8))
	for range 300 {
		c := randomCourse(random, 2)
		q := randomQuestion(random, c)
		indices, e := rating.Indices(c, q.tee, q.level, q.other)
		is(t, "error", e, api.OK)
		var holes []api.Hole
		for _, index := range indices {
			holes = append(holes, api.Hole{Par: 4, Index: index})
		}
		is(t, "holes of a card", card.CheckHoles(holes), api.OK)
		is(t, "as many as holes", len(indices), len(c.Sites))
	}
}

func TestP3_5NoBetterLine(t *testing.T) {
	random := rand.New(rand.NewSource(9))
	for range 400 {
		points := randomPoints(random, 2+random.Intn(8), 2)
		slope, offset, e := rating.Fit(points)
		if e == api.ErrSingular {
			continue
		}
		is(t, "error", e, api.OK)
		least, e := rating.Squares(points, slope, offset)
		is(t, "error", e, api.OK)
		for range 20 {
			a := rat(plus(bigRat(slope), bigRat(randomBetween(random, -1, 1, 3))))
			b := rat(plus(bigRat(offset), bigRat(randomBetween(random, -1, 1, 3))))
			squares, e := rating.Squares(points, a, b)
			is(t, "error", e, api.OK)
			if order := bigRat(squares).Cmp(bigRat(least)); order < 0 || order == 0 && (a != slope || b != offset) {
				t.Errorf("the line %s, %s of %v is no worse than %s, %s", a, b, points, slope, offset)
			}
		}
		misses := new(big.Rat)
		var xs, ys []api.Rat
		for _, p := range points {
			misses = plus(misses, minus(bigRat(p.Y), plus(times(bigRat(slope), bigRat(p.X)), bigRat(offset))))
			xs, ys = append(xs, p.X), append(ys, p.Y)
		}
		is(t, "what the points miss", rat(misses), "0")
		x, _ := rating.Mean(xs)
		y, _ := rating.Mean(ys)
		is(t, "the mean of Y", rat(plus(times(bigRat(slope), bigRat(x)), bigRat(offset))), y)
	}
}

func TestP3_5MediansAreInTheMiddle(t *testing.T) {
	random := rand.New(rand.NewSource(10))
	for range 600 {
		l := randomRats(random, 1+random.Intn(9), 2)
		median, e := rating.Median(l)
		is(t, "error", e, api.OK)
		atLeast, atMost := 0, 0
		for _, a := range l {
			order, _ := card.Compare(median, a)
			if order >= 0 {
				atLeast++
			}
			if order <= 0 {
				atMost++
			}
		}
		if 2*atLeast < len(l) || 2*atMost < len(l) {
			t.Errorf("the median %s of %v", median, l)
		}
	}
}

func TestP3_5DriftGrows(t *testing.T) {
	random := rand.New(rand.NewSource(11))
	for range 300 {
		c := randomCourse(random, 2)
		q := randomQuestion(random, c)
		var less, more []int
		for range 1 + random.Intn(9) {
			less = append(less, 1+random.Intn(20))
			more = append(more, less[len(less)-1]+random.Intn(5))
		}
		a, e := rating.Drift(c, q.tee, q.level, less)
		b, f := rating.Drift(c, q.tee, q.level, more)
		is(t, "errors", [2]api.Errno{e, f}, [2]api.Errno{})
		if bigRat(a).Cmp(bigRat(b)) > 0 {
			t.Errorf("the drift of %v is %s, that of %v %s", less, a, more, b)
		}
		for i := range more {
			more[i] = less[i] + 1
		}
		b, _ = rating.Drift(c, q.tee, q.level, more)
		is(t, "one stroke more", rat(minus(bigRat(b), bigRat(a))), "1")
	}
}

// odd gives arguments of which most have no form.
type odd struct {
	random *rand.Rand
	texts  []string
}

func newOdd(seed int64) odd {
	return odd{rand.New(rand.NewSource(seed)), []string{"", "0", "-0", "1", "-1", "1/2", "-3/2", "2/4", "1/0", "/", "a", "b", "water", "\xff", "\x00", "é", "10000", "10001", string(most), "-" + string(most), "1/" + string(most), string(most) + "0", strings.Repeat("7", 5000)}}
}

func (o odd) text() string {
	return o.texts[o.random.Intn(len(o.texts))]
}

func (o odd) rat() api.Rat { return api.Rat(o.text()) }

func (o odd) int() int {
	numbers := []int{0, 1, -1, 2, 3, 10, 11, 36, 100, 10000, 10001, 999999999, 1000000000, math.MaxInt, math.MinInt}
	return numbers[o.random.Intn(len(numbers))]
}

// list returns nil, or some elements.
func list[T any](o odd, element func() T) []T {
	n := []int{0, 0, 1, 2, 3, 16, 17, 37, 65, 257}[o.random.Intn(10)]
	var l []T
	for range n {
		l = append(l, element())
	}
	return l
}

func (o odd) point() api.Point          { return api.Point{X: o.rat(), Y: o.rat()} }
func (o odd) weight() rating.Weight     { return rating.Weight{Kind: o.text(), Strokes: o.rat()} }
func (o odd) obstacle() rating.Obstacle { return rating.Obstacle{Kind: o.text(), Value: o.int()} }
func (o odd) tee() rating.Tee           { return rating.Tee{Name: o.text(), Lengths: list(o, o.int)} }

func (o odd) site() rating.Site {
	return rating.Site{Rise: o.rat(), Wind: o.rat(), Layup: o.rat(), Roll: o.rat(), Obstacles: list(o, o.obstacle)}
}

func (o odd) level() rating.Level {
	return rating.Level{Name: o.text(), First: o.rat(), Next: o.rat(), Strokes: list(o, o.point), Weights: list(o, o.weight)}
}

// course returns a course without any form, or one that is spoiled in one place.
func (o odd) course() rating.Course {
	if o.random.Intn(3) == 0 {
		return rating.Course{Sites: list(o, o.site), Tees: list(o, o.tee), Levels: list(o, o.level)}
	}
	c := randomCourse(o.random, 2)
	switch o.random.Intn(4) {
	case 0:
		c.Sites[len(c.Sites)-1] = o.site()
	case 1:
		c.Tees[len(c.Tees)-1] = o.tee()
	case 2:
		c.Levels[len(c.Levels)-1] = o.level()
	}
	return c
}

// isNumber checks that a result is a number, and that beside an error it is none.
func isNumber(t *testing.T, what string, a api.Rat, e api.Errno) {
	t.Helper()
	if e == api.OK && card.Check(a) != api.OK || e != api.OK && a != "" {
		t.Errorf("%s: the number %q beside the error %d", what, a, e)
	}
}

// TestP1NeverPanics asks all functions for anything.
func TestP1NeverPanics(t *testing.T) {
	o := newOdd(12)
	for range 1000 {
		c := o.course()
		for _, a := range answers(c, question{o.int(), o.int(), o.int(), o.int(), list(o, o.int)}) {
			if a.e != api.OK {
				refuses(t, "anything", a, a.e)
			}
		}
		rating.CheckLevel(o.level())
		mean, e := rating.Mean(list(o, o.rat))
		isNumber(t, "Mean", mean, e)
		median, e := rating.Median(list(o, o.rat))
		isNumber(t, "Median", median, e)
		points := list(o, func() api.Point { return api.Point{X: ratOf(int64(o.random.Intn(9)), 7), Y: o.rat()} })
		slope, offset, e := rating.Fit(points)
		isNumber(t, "Fit", slope, e)
		isNumber(t, "Fit", offset, e)
		squares, e := rating.Squares(points, o.rat(), o.rat())
		isNumber(t, "Squares", squares, e)
	}
	answers(rating.Course{}, question{})
	answers(rating.Course{Sites: make([]rating.Site, 100000), Tees: make([]rating.Tee, 100000), Levels: make([]rating.Level, 100000)}, question{scores: make([]int, 100000)})
}

// Arguments remain as they were, the same call has the same results, and results share nothing.
func TestP1ArgumentsRemain(t *testing.T) {
	random := rand.New(rand.NewSource(13))
	for range 200 {
		c := randomCourse(random, 2)
		q := randomQuestion(random, c)
		q.scores = []int{9, 1, 5, 7}
		numbers := randomRats(random, 6, 2)
		points := randomPoints(random, 6, 2)
		courseBefore, numbersBefore, pointsBefore := copied(c), slices.Clone(numbers), slices.Clone(points)
		before := answers(c, q)
		rating.Mean(numbers)
		rating.Median(numbers)
		rating.Fit(points)
		rating.Squares(points, "1", "1")
		is(t, "the course", c, courseBefore)
		is(t, "the scores", q.scores, []int{9, 1, 5, 7})
		is(t, "the numbers", numbers, numbersBefore)
		is(t, "the points", points, pointsBefore)
		is(t, "the answers", answers(c, q), before)
	}
	c := two()
	table, _ := rating.Table(c)
	_ = append(table[0], "77")
	table[0][0] = "77"
	is(t, "the other row", table[1], []api.Rat{"89/10", "53/5"})
	table, e := rating.Table(c)
	gives(t, "Table", table, e, [][]api.Rat{{"91/10", "54/5"}, {"89/10", "53/5"}})
	indices, _ := rating.Indices(c, 0, 0, 1)
	indices[0] = 77
	indices, e = rating.Indices(c, 0, 0, 1)
	gives(t, "Indices", indices, e, []int{2, 1})
}
