package rating_test

import (
	"fmt"
	"math"
	"math/rand"
	"slices"
	"testing"

	"niblick/api"
	"niblick/rating"
)

// two returns a course with two tees.
func two() rating.Course {
	c := sample()
	c.Tees = append(c.Tees, rating.Tee{Name: "white", Lengths: []int{380, 140}})
	c.Sites[1].Obstacles = []rating.Obstacle{{Kind: "water", Value: 10}}
	return c
}

// checkCourse checks the error of a course, which all functions return, whatever their other arguments are.
func checkCourse(t *testing.T, what string, c rating.Course, want api.Errno) {
	t.Helper()
	is(t, what, rating.CheckCourse(c), want)
	for _, q := range []question{{}, {scores: []int{72}}, {-1, -1, -1, -1, []int{0}}, {tee: 1, hole: 1, level: 1, scores: []int{72}}} {
		for _, a := range answers(c, q) {
			if want != api.OK {
				refuses(t, what, a, want)
			}
		}
	}
}

func TestP3_1CheckCourseInOrder(t *testing.T) {
	inOrder(t, two, checkCourse, []defect[rating.Course]{
		{"no sites", func(c *rating.Course) { c.Sites = nil }, api.ErrEmpty},
		{"37 sites", func(c *rating.Course) { c.Sites = append(c.Sites, make([]rating.Site, 35)...) }, api.ErrMany},
		{"Rise without its form", func(c *rating.Course) { c.Sites[0].Rise = "" }, api.ErrForm},
		{"Rise too low", func(c *rating.Course) { c.Sites[0].Rise = "-10001" }, api.ErrRange},
		{"Wind too large", func(c *rating.Course) { c.Sites[0].Wind = most + "1" }, api.ErrLarge},
		{"Wind too much", func(c *rating.Course) { c.Sites[0].Wind = "20001/2" }, api.ErrRange},
		{"Layup without its form", func(c *rating.Course) { c.Sites[0].Layup = "-0" }, api.ErrForm},
		{"Layup below 0", func(c *rating.Course) { c.Sites[0].Layup = "-1/2" }, api.ErrRange},
		{"Roll too large", func(c *rating.Course) { c.Sites[0].Roll = "1/" + most + "1" }, api.ErrLarge},
		{"Roll too long", func(c *rating.Course) { c.Sites[0].Roll = "10001" }, api.ErrRange},
		{"17 obstacles", func(c *rating.Course) {
			c.Sites[0].Obstacles = append(c.Sites[0].Obstacles, make([]rating.Obstacle, 15)...)
		}, api.ErrMany},
		{"a kind that is no name", func(c *rating.Course) { c.Sites[0].Obstacles[0].Kind = "a b" }, api.ErrName},
		{"a value below 0", func(c *rating.Course) { c.Sites[0].Obstacles[0].Value = -1 }, api.ErrRange},
		{"a second kind that is no name", func(c *rating.Course) { c.Sites[0].Obstacles[1].Kind = "" }, api.ErrName},
		{"a value above 10", func(c *rating.Course) { c.Sites[0].Obstacles[1].Value = 11 }, api.ErrRange},
		{"a second Rise without its form", func(c *rating.Course) { c.Sites[1].Rise = "1/1" }, api.ErrForm},
		{"a second Wind too much", func(c *rating.Course) { c.Sites[1].Wind = "10001" }, api.ErrRange},
		{"a second Layup too large", func(c *rating.Course) { c.Sites[1].Layup = most + "0" }, api.ErrLarge},
		{"a second Roll below 0", func(c *rating.Course) { c.Sites[1].Roll = "-1" }, api.ErrRange},
		{"a kind of the last site", func(c *rating.Course) { c.Sites[1].Obstacles[0].Kind = "9" }, api.ErrName},
		{"no tees", func(c *rating.Course) { c.Tees = nil }, api.ErrEmpty},
		{"9 tees", func(c *rating.Course) { c.Tees = append(c.Tees, make([]rating.Tee, 7)...) }, api.ErrMany},
		{"a tee without a name", func(c *rating.Course) { c.Tees[0].Name = "" }, api.ErrName},
		{"three lengths", func(c *rating.Course) { c.Tees[0].Lengths = append(c.Tees[0].Lengths, 0) }, api.ErrShape},
		{"a length 0", func(c *rating.Course) { c.Tees[0].Lengths[1] = 0 }, api.ErrRange},
		{"a second tee without a name", func(c *rating.Course) { c.Tees[1].Name = "-" }, api.ErrName},
		{"a tee twice", func(c *rating.Course) { c.Tees[1].Name = "blue" }, api.ErrTwice},
		{"one length", func(c *rating.Course) { c.Tees[1].Lengths = []int{0} }, api.ErrShape},
		{"a length too long", func(c *rating.Course) { c.Tees[1].Lengths[0] = 10001 }, api.ErrRange},
		{"no levels", func(c *rating.Course) { c.Levels = nil }, api.ErrEmpty},
		{"9 levels", func(c *rating.Course) { c.Levels = append(c.Levels, make([]rating.Level, 7)...) }, api.ErrMany},
		{"a level without a name", func(c *rating.Course) { c.Levels[0].Name = "" }, api.ErrName},
		{"a level without strokes", func(c *rating.Course) { c.Levels[0].Weights[1].Strokes = "" }, api.ErrForm},
		{"a second level without a name", func(c *rating.Course) { c.Levels[1].Name = "1" }, api.ErrName},
		{"a second level with short strokes", func(c *rating.Course) { c.Levels[1].Next = "0" }, api.ErrRange},
		{"a level twice", func(c *rating.Course) { c.Levels[1].Name = "scratch" }, api.ErrTwice},
	})
	checkCourse(t, "two tees", two(), api.OK)
	is(t, "nothing", rating.CheckCourse(rating.Course{}), api.ErrEmpty)
}

func TestP3_1CheckCourseRanges(t *testing.T) {
	for _, x := range []struct {
		yards            api.Rat
		signed, unsigned api.Errno
	}{
		{"0", api.OK, api.OK}, {"10000", api.OK, api.OK}, {"29999/3", api.OK, api.OK}, {"1/" + most, api.OK, api.OK},
		{"-10000", api.OK, api.ErrRange}, {"-1", api.OK, api.ErrRange}, {"-1/" + most, api.OK, api.ErrRange}, {"-9999999/1000", api.OK, api.ErrRange},
		{"10001", api.ErrRange, api.ErrRange}, {"-10001", api.ErrRange, api.ErrRange}, {"30001/3", api.ErrRange, api.ErrRange}, {"-30001/3", api.ErrRange, api.ErrRange}, {most, api.ErrRange, api.ErrRange}, {"-" + most, api.ErrRange, api.ErrRange},
	} {
		for site := range 2 {
			c := two()
			c.Sites[site].Rise = x.yards
			checkCourse(t, "Rise", c, x.signed)
			c = two()
			c.Sites[site].Wind = x.yards
			checkCourse(t, "Wind", c, x.signed)
			c = two()
			c.Sites[site].Layup = x.yards
			checkCourse(t, "Layup", c, x.unsigned)
			c = two()
			c.Sites[site].Roll = x.yards
			checkCourse(t, "Roll", c, x.unsigned)
		}
	}
	for _, x := range badNumbers {
		for _, spoil := range []func(s *rating.Site){
			func(s *rating.Site) { s.Rise = x.text },
			func(s *rating.Site) { s.Wind = x.text },
			func(s *rating.Site) { s.Layup = x.text },
			func(s *rating.Site) { s.Roll = x.text },
		} {
			c := two()
			spoil(&c.Sites[1])
			checkCourse(t, "no number", c, x.e)
		}
	}
	for _, n := range []int{math.MinInt, -1, 0, 1, 2, 9999, 10000, 10001, math.MaxInt} {
		want := api.ErrRange
		if n >= 1 && n <= 10000 {
			want = api.OK
		}
		c := two()
		c.Tees[1].Lengths[1] = n
		checkCourse(t, "a length", c, want)
	}
	for _, n := range []int{math.MinInt, -1, 0, 1, 9, 10, 11, math.MaxInt} {
		want := api.ErrRange
		if n >= 0 && n <= 10 {
			want = api.OK
		}
		c := two()
		c.Sites[0].Obstacles[1].Value = n
		checkCourse(t, "a value", c, want)
	}
}

func TestP3_1CheckCourseSizes(t *testing.T) {
	limited := func(n, most int) api.Errno {
		if n > most {
			return api.ErrMany
		}
		return api.OK
	}
	for _, n := range []int{1, 2, 18, 36, 37} {
		checkCourse(t, "holes", flat(n, "4"), limited(n, 36))
	}
	for n := 1; n <= 9; n++ {
		checkCourse(t, "levels", flat(2, slices.Repeat([]api.Rat{"4"}, n)...), limited(n, 8))
		c := flat(2, "4")
		c.Tees = nil
		for i := range n {
			c.Tees = append(c.Tees, rating.Tee{Name: fmt.Sprint("tee", i), Lengths: []int{1, 10000}})
		}
		checkCourse(t, "tees", c, limited(n, 8))
		if n == 1 || n == 9 {
			continue
		}
		c.Tees[n-1].Name = "tee0"
		checkCourse(t, "the first tee again", c, api.ErrTwice)
		c.Tees[n-1].Lengths = nil
		checkCourse(t, "the first tee again without lengths", c, api.ErrTwice)
		c = flat(2, slices.Repeat([]api.Rat{"4"}, n)...)
		c.Levels[n-1].Name = "level0"
		checkCourse(t, "the first level again", c, api.ErrTwice)
		c.Levels[n-1].Weights = []rating.Weight{{Kind: "water", Strokes: "-1"}}
		checkCourse(t, "the first level again with an error", c, api.ErrRange)
	}
	for n := range 18 {
		c := flat(2, "4")
		c.Sites[1].Obstacles = slices.Repeat([]rating.Obstacle{{Kind: "water", Value: 10}}, n)
		checkCourse(t, "obstacles", c, limited(n, 16))
	}
	c := two()
	c.Tees[1].Name, c.Levels[1].Name = "scratch", "blue"
	checkCourse(t, "a tee with the name of a level", c, api.OK)
}

// Each function returns ErrUnknown exactly for the arguments that it has, before errors of scores.
func TestP3UnknownTeesHolesAndLevels(t *testing.T) {
	for _, n := range []int{-1, 2, 3, 8, math.MinInt, math.MaxInt} {
		for i, uses := range "thlo" {
			arguments := []int{1, 1, 1, 1}
			arguments[i] = n
			for _, scores := range [][]int{{72}, nil, {0}} {
				q := question{arguments[0], arguments[1], arguments[2], arguments[3], scores}
				for _, a := range answers(two(), q) {
					switch {
					case slices.Contains([]rune(a.uses), uses):
						refuses(t, string(uses), a, api.ErrUnknown)
					case a.name != "Drift":
						is(t, a.name, a.e, api.OK)
					}
				}
			}
		}
	}
}

func TestP3_1Examples(t *testing.T) {
	for _, x := range []struct {
		hole, level       int
		played, effective api.Rat
		full              int
	}{{0, 0, "420", "4240/11", 2}, {1, 0, "150", "150", 1}, {0, 1, "420", "3380/9", 3}, {1, 1, "150", "150", 1}} {
		played, e := rating.Played(sample(), 0, x.hole)
		gives(t, "Played", played, e, x.played)
		full, e := rating.Full(sample(), 0, x.hole, x.level)
		gives(t, "Full", full, e, x.full)
		effective, e := rating.Effective(sample(), 0, x.hole, x.level)
		gives(t, "Effective", effective, e, x.effective)
	}
}

// single returns a course with one hole, and one level.
func single(length int, first, next api.Rat, s rating.Site) rating.Course {
	c := flat(1, "4")
	c.Tees[0].Lengths[0], c.Sites[0] = length, s
	c.Levels[0].First, c.Levels[0].Next = first, next
	return c
}

func TestP3_1Lengths(t *testing.T) {
	for _, x := range []struct {
		name              string
		length            int
		first, next       api.Rat
		rise, wind, layup api.Rat
		roll              api.Rat
		played            api.Rat
		full              int
		effective         api.Rat
	}{
		{"a stroke with its roll", 260, "240", "200", "0", "0", "0", "20", "260", 1, "240"},
		{"more than a stroke", 260, "240", "200", "1/10", "0", "0", "20", "2601/10", 2, "2641/11"},
		{"less than a stroke", 130, "240", "200", "0", "0", "0", "20", "130", 1, "120"},
		{"a short hole without roll", 130, "240", "200", "0", "0", "0", "0", "130", 1, "130"},
		{"two strokes with their rolls", 480, "240", "200", "0", "0", "0", "20", "480", 2, "440"},
		{"two strokes and a bit", 480, "240", "200", "0", "0", "1/1000", "20", "480001/1000", 3, "484001/1100"},
		{"three strokes", 700, "240", "200", "0", "0", "0", "20", "700", 3, "640"},
		{"a long further stroke", 1000, "100", "900", "0", "0", "0", "0", "1000", 2, "1000"},
		{"all that is added", 100, "200", "150", "10", "20", "30", "0", "160", 1, "160"},
		{"a fall and help", 100, "200", "150", "-10", "-20", "30", "0", "100", 1, "100"},
		{"nothing left", 100, "200", "150", "-50", "-50", "0", "10", "0", 1, "0"},
		{"less than nothing", 100, "200", "150", "-50", "-51", "0", "10", "0", 1, "0"},
		{"far less than nothing", 1, "200", "150", "-10000", "-10000", "9999", "0", "0", 1, "0"},
		{"hardly anything", 1, "200", "150", "-1999/1000", "1", "0", "0", "1/1000", 1, "1/1000"},
		{"fractions", 333, "401/3", "43", "1/2", "-1/3", "1/5", "1/11", "10001/30", 6, "1577731/4740"},
		{"the most strokes", 10000, "1", "1", "10000", "10000", "10000", "0", "40000", 40000, "40000"},
		{"the longest strokes", 10000, "10000", "10000", "10000", "10000", "10000", "10000", "40000", 2, "20000"},
	} {
		c := single(x.length, x.first, x.next, rating.Site{Rise: x.rise, Wind: x.wind, Layup: x.layup, Roll: x.roll})
		played, e := rating.Played(c, 0, 0)
		gives(t, x.name, played, e, x.played)
		full, e := rating.Full(c, 0, 0, 0)
		gives(t, x.name, full, e, x.full)
		effective, e := rating.Effective(c, 0, 0, 0)
		gives(t, x.name, effective, e, x.effective)
	}
}

// On the way to a result, numbers may have more digits than a result may have.
func TestP3_1LargeLengths(t *testing.T) {
	l := parts()
	c := single(100, "200", "150", rating.Site{Rise: l[0], Wind: l[1], Layup: "0", Roll: "0"})
	played, e := rating.Played(c, 0, 0)
	fails(t, "Played", played, e, api.ErrLarge)
	full, e := rating.Full(c, 0, 0, 0)
	gives(t, "Full", full, e, 1)
	effective, e := rating.Effective(c, 0, 0, 0)
	fails(t, "Effective", effective, e, api.ErrLarge)
	c.Sites[0].Wind = "-" + l[0]
	c.Tees[0].Lengths[0] = 201
	played, e = rating.Played(c, 0, 0)
	gives(t, "Played", played, e, "201")
	full, e = rating.Full(c, 0, 0, 0)
	gives(t, "Full", full, e, 2)
	effective, e = rating.Effective(c, 0, 0, 0)
	gives(t, "Effective", effective, e, "201")
	// The least part of a yard makes one stroke more.
	c.Tees[0].Lengths[0], c.Sites[0].Wind = 350, "0"
	full, e = rating.Full(c, 0, 0, 0)
	gives(t, "Full", full, e, 3)
	played, e = rating.Played(c, 0, 0)
	fails(t, "Played", played, e, api.ErrLarge)
	c.Sites[0].Rise = "-" + l[0]
	full, e = rating.Full(c, 0, 0, 0)
	gives(t, "Full", full, e, 2)
}

func TestP3_1FollowsTheDefinitions(t *testing.T) {
	random := rand.New(rand.NewSource(1))
	for i := range 600 {
		c := randomCourse(random, []int{1, 2, 4, 100}[i%4])
		q := randomQuestion(random, c)
		played, e := rating.Played(c, q.tee, q.hole)
		result(t, "Played", played, e, slow{c}.played(q.tee, q.hole))
		full, e := rating.Full(c, q.tee, q.hole, q.level)
		gives(t, "Full", full, e, slow{c}.full(q.tee, q.hole, q.level))
		effective, e := rating.Effective(c, q.tee, q.hole, q.level)
		result(t, "Effective", effective, e, slow{c}.effective(q.tee, q.hole, q.level))
	}
}
