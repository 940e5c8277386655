package rating_test

import (
	"math/rand"
	"strings"
	"testing"

	"niblick/api"
	"niblick/rating"
)

func TestP3_3Examples(t *testing.T) {
	exact, e := rating.Exact(sample(), 0, 0)
	gives(t, "Exact", exact, e, "447/55")
	exact, e = rating.Exact(sample(), 0, 1)
	gives(t, "Exact", exact, e, "1061/120")
	strokes, e := rating.Rating(sample(), 0, 0)
	gives(t, "Rating", strokes, e, "81/10")
	strokes, e = rating.Rating(sample(), 0, 1)
	gives(t, "Rating", strokes, e, "44/5")
	slope, e := rating.Slope(sample(), 0, 0, 1)
	gives(t, "Slope", slope, e, 55)
	indices, e := rating.Indices(sample(), 0, 0, 1)
	gives(t, "Indices", indices, e, []int{1, 2})
	table, e := rating.Table(sample())
	gives(t, "Table", table, e, [][]api.Rat{{"81/10", "44/5"}})
	out, in, e := rating.Nines(sample(), 0, 0)
	gives(t, "the first nine", out, e, "1073/220")
	gives(t, "the second nine", in, e, "13/4")
}

func TestP3_3Rating(t *testing.T) {
	for _, x := range []struct{ exact, want api.Rat }{
		{"0", "0"}, {"8", "8"}, {"81/10", "81/10"}, {"161/20", "81/10"}, {"1609999/200000", "8"}, {"163/20", "41/5"}, {"1629999/200000", "81/10"}, {"1/20", "1/10"}, {"1/21", "0"}, {"10/3", "33/10"}, {"1399/20", "70"},
		{"-1/20", "0"}, {"-1/10", "-1/10"}, {"-161/20", "-8"}, {"-81/10", "-81/10"}, {"-1611/200", "-81/10"}, {"-1/19", "-1/10"},
	} {
		c := flat(1, x.exact)
		exact, e := rating.Exact(c, 0, 0)
		gives(t, "Exact", exact, e, x.exact)
		strokes, e := rating.Rating(c, 0, 0)
		gives(t, "Rating of "+string(x.exact), strokes, e, x.want)
		table, e := rating.Table(c)
		gives(t, "Table", table, e, [][]api.Rat{{x.want}})
	}
	// The sum is rounded, not the ratings of the holes.
	c := flat(36, "101/25")
	exact, e := rating.Exact(c, 0, 0)
	gives(t, "Exact", exact, e, "3636/25")
	strokes, e := rating.Rating(c, 0, 0)
	gives(t, "Rating", strokes, e, "727/5")
}

func TestP3_3Nines(t *testing.T) {
	for _, x := range []struct {
		holes   int
		out, in api.Rat
	}{{1, "0", "7/2"}, {2, "7/2", "7/2"}, {3, "7/2", "7"}, {5, "7", "21/2"}, {9, "14", "35/2"}, {18, "63/2", "63/2"}, {35, "119/2", "63"}, {36, "63", "63"}} {
		out, in, e := rating.Nines(flat(x.holes, "7/2"), 0, 0)
		gives(t, "the first nine", out, e, x.out)
		gives(t, "the second nine", in, e, x.in)
	}
}

func TestP3_3Slope(t *testing.T) {
	for _, x := range []struct {
		difference api.Rat
		want       int
	}{
		{"-100", 55}, {"0", 55}, {"10", 55}, {"109/10", 55}, {"1099/100", 55}, {"11", 55}, {"1109/100", 55}, {"111/10", 56}, {"56/5", 56},
		{"20", 100}, {"201/10", 101}, {"2009/100", 100}, {"203/10", 102}, {"61/3", 102},
		{"307/10", 154}, {"3089/100", 154}, {"309/10", 155}, {"31", 155}, {"311/10", 155}, {"32", 155}, {"1000", 155}, {most, 155}, {"-" + most, 55},
	} {
		slope, e := rating.Slope(flat(1, "0", x.difference), 0, 0, 1)
		gives(t, "Slope of "+string(x.difference), slope, e, x.want)
		slope, e = rating.Slope(flat(1, x.difference, "0", rat(whole(1))), 0, 0, 0)
		gives(t, "Slope of a level and itself", slope, e, 55)
	}
	// The exact ratings count, which are 1/25 and 401/20: 5 times the difference of the rounded ones is 201/2.
	slope, e := rating.Slope(flat(2, "1/50", "401/40"), 0, 0, 1)
	gives(t, "Slope", slope, e, 100)
	slope, e = rating.Slope(flat(2, "401/40", "1/50"), 0, 1, 0)
	gives(t, "Slope", slope, e, 100)
}

func TestP3_3Table(t *testing.T) {
	c := flat(2, "7/2", "4", "19/4")
	c.Levels[1].Strokes = []api.Point{{X: "0", Y: "0"}, {X: "1000", Y: "100"}}
	c.Tees = append(c.Tees, rating.Tee{Name: "white", Lengths: []int{30, 40}})
	table, e := rating.Table(c)
	gives(t, "Table", table, e, [][]api.Rat{{"7", "20", "19/2"}, {"7", "7", "19/2"}})
	table, e = rating.Table(flat(1, "4"))
	gives(t, "the least table", table, e, [][]api.Rat{{"4"}})
}

// apart returns a course whose levels differ on its holes by a tenth of these numbers.
func apart(differences ...int) rating.Course {
	c := flat(len(differences), "100", "100")
	for i, n := range differences {
		level, kind := 1, "more"
		if n < 0 {
			level, kind, n = 0, "less", -n
		}
		c.Levels[level].Weights = []rating.Weight{{Kind: kind, Strokes: "1"}}
		c.Sites[i].Obstacles = []rating.Obstacle{{Kind: kind, Value: n}}
	}
	return c
}

func TestP3_3Indices(t *testing.T) {
	for _, x := range []struct{ differences, good, bad []int }{
		{[]int{5}, []int{1}, []int{1}},
		{[]int{1, 2, 3}, []int{3, 2, 1}, []int{1, 2, 3}},
		{[]int{3, 2, 1}, []int{1, 2, 3}, []int{3, 2, 1}},
		{[]int{2, 2, 2, 2}, []int{1, 2, 3, 4}, []int{1, 2, 3, 4}},
		{[]int{1, 3, 1, 3, 2}, []int{4, 1, 5, 2, 3}, []int{1, 4, 2, 5, 3}},
		{[]int{-1, 0, -2, 1}, []int{3, 2, 4, 1}, []int{2, 3, 1, 4}},
		{[]int{0, 4, 0, -4, 4}, []int{3, 1, 4, 5, 2}, []int{2, 4, 3, 1, 5}},
	} {
		indices, e := rating.Indices(apart(x.differences...), 0, 0, 1)
		gives(t, "Indices", indices, e, x.good)
		indices, e = rating.Indices(apart(x.differences...), 0, 1, 0)
		gives(t, "Indices the other way round", indices, e, x.bad)
	}
	c := flat(36, "4", "5")
	var want []int
	for i := range 36 {
		want = append(want, i+1)
	}
	indices, e := rating.Indices(c, 0, 0, 1)
	gives(t, "36 equal holes", indices, e, want)
	c.Levels[1].Weights = []rating.Weight{{Kind: "water", Strokes: "1"}}
	c.Sites[35].Obstacles = []rating.Obstacle{{Kind: "water", Value: 1}}
	indices, e = rating.Indices(c, 0, 0, 1)
	gives(t, "the last of 36 holes", indices, e, append(want[1:], 1))
}

// partial returns a course with a level that takes these numbers, which do not descend, on its holes.
func partial(l ...api.Rat) rating.Course {
	c := flat(len(l), "0")
	c.Levels[0].First, c.Levels[0].Strokes = "1000", nil
	for i, y := range l {
		c.Tees[0].Lengths[i] = i + 1
		c.Levels[0].Strokes = append(c.Levels[0].Strokes, api.Point{X: ratOf(int64(i+1), 1), Y: y})
	}
	return c
}

func TestP3_3LargeSums(t *testing.T) {
	l := parts()
	half := "5" + api.Rat(strings.Repeat("0", 599))
	for _, x := range []struct {
		name           string
		c              rating.Course
		exact, rounded api.Rat
		out, in        api.Rat
	}{
		{"parts with the sum 2", partial(l[0], l[1], l[3], l[2]), "2", "2", "", ""},
		{"two parts", partial(l[0], l[1]), "", "0", l[0], l[1]},
		{"two great parts", partial(l[3], l[2]), "", "2", l[3], l[2]},
		{"a long second nine", partial(l[0], l[1], l[2]), rat(plus(whole(1), bigRat(l[1]))), "1", "", ""},
		{"a long first nine", partial(l[0], l[1], "1", "1"), "", "2", "", ""},
		{"great numbers", flat(2, half), "", "", half, half},
		{"great numbers with the sum 0", partial("-"+most, "-"+most, most, most), "0", "0", "", ""},
		{"a great number", flat(1, most), most, most, "0", most},
		{"a great number and a tenth", partial("1/10", most), "", "", "1/10", most},
		{"a great number and a part", partial("1/30", most), "", most, "1/30", most},
	} {
		exact, e := rating.Exact(x.c, 0, 0)
		givesOrLarge(t, x.name, exact, e, x.exact)
		strokes, e := rating.Rating(x.c, 0, 0)
		givesOrLarge(t, x.name, strokes, e, x.rounded)
		out, in, e := rating.Nines(x.c, 0, 0)
		givesOrLarge(t, x.name, out, e, x.out)
		givesOrLarge(t, x.name, in, e, x.in)
		table, e := rating.Table(x.c)
		if x.rounded == "" {
			fails(t, x.name, table, e, api.ErrLarge)
		} else {
			gives(t, x.name, table, e, [][]api.Rat{{x.rounded}})
		}
	}
	c := flat(2, half, rat(plus(bigRat(half), whole(10))))
	slope, e := rating.Slope(c, 0, 0, 1)
	gives(t, "Slope", slope, e, 100)
	c.Levels[1].Weights = []rating.Weight{{Kind: "water", Strokes: "1"}}
	c.Sites[1].Obstacles = []rating.Obstacle{{Kind: "water", Value: 1}}
	indices, e := rating.Indices(c, 0, 0, 1)
	gives(t, "Indices", indices, e, []int{2, 1})
	table, e := rating.Table(flat(2, "4", half, "5"))
	fails(t, "one great rating", table, e, api.ErrLarge)
}

// givesOrLarge checks a result, or with nothing wanted that it is too large.
func givesOrLarge(t *testing.T, what string, got api.Rat, e api.Errno, want api.Rat) {
	t.Helper()
	if want == "" {
		fails(t, what, got, e, api.ErrLarge)
		return
	}
	gives(t, what, got, e, want)
}

func TestP3_3FollowsTheDefinitions(t *testing.T) {
	random := rand.New(rand.NewSource(3))
	for i := range 400 {
		c := randomCourse(random, []int{1, 2, 4, 80}[i%4])
		q, half := randomQuestion(random, c), len(c.Sites)/2
		s := slow{c}
		exact, e := rating.Exact(c, q.tee, q.level)
		result(t, "Exact", exact, e, s.exact(q.tee, q.level))
		strokes, e := rating.Rating(c, q.tee, q.level)
		result(t, "Rating", strokes, e, rounded(s.exact(q.tee, q.level), 10))
		out, in, e := rating.Nines(c, q.tee, q.level)
		first, second := s.part(q.tee, q.level, 0, half), s.part(q.tee, q.level, half, len(c.Sites))
		if fits(first) && fits(second) {
			gives(t, "the first nine", out, e, rat(first))
			gives(t, "the second nine", in, e, rat(second))
		} else {
			fails(t, "the first nine", out, e, api.ErrLarge)
			fails(t, "the second nine", in, e, api.ErrLarge)
		}
		slope, e := rating.Slope(c, q.tee, q.level, q.other)
		gives(t, "Slope", slope, e, s.slope(q.tee, q.level, q.other))
		indices, e := rating.Indices(c, q.tee, q.level, q.other)
		gives(t, "Indices", indices, e, s.indices(q.tee, q.level, q.other))
		var want [][]api.Rat
		for tee := range c.Tees {
			want = append(want, nil)
			for level := range c.Levels {
				want[tee] = append(want[tee], rat(rounded(s.exact(tee, level), 10)))
			}
		}
		table, e := rating.Table(c)
		gives(t, "Table", table, e, want)
	}
}
