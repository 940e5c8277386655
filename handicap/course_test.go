package handicap_test

import (
	"fmt"
	"math"
	"math/rand"
	"slices"
	"strings"
	"testing"

	"niblick/api"
	"niblick/handicap"
)

func TestP6_4Examples(t *testing.T) {
	n, e := handicap.Course("93/10", 120, "72", 71)
	gives(t, "the course handicap", n, e, 12)
	n, e = handicap.Playing(12, 95)
	gives(t, "the playing handicap", n, e, 11)
	l, e := handicap.Relative([]int{12, 7, 9})
	gives(t, "Relative", l, e, []int{5, 0, 2})
	n, e = handicap.Team([]int{10, 20}, []int{35, 15})
	gives(t, "Team", n, e, 7)
	n, e = handicap.Conditions([]api.Rat{"1", "2", "2", "3", "3", "4", "5", "5"})
	gives(t, "Conditions", n, e, 3)
}

// words returns numbers with one blank between two of them.
func words(text string) []api.Rat {
	var l []api.Rat
	for _, word := range strings.Fields(text) {
		l = append(l, api.Rat(word))
	}
	return l
}

func TestP6_4Conditions(t *testing.T) {
	for _, c := range []struct {
		l    string
		want int
	}{
		{"", 0},
		{"2", 0},
		{"2 2 2 2 2 2 2", 0},
		{"2 2 2 2 2 2 2 2", 2},
		{"9 9 9 1 1 9 1 1", 3},
		{"1 1 1 1 1 9 9 9 9", 1},
		{"9 9 9 9 9 1 1 1 1", 3},
		{"0 0 0 0 1 1 1 1", 1},
		{"-1 -1 -1 -1 0 0 0 0", 0},
		{"-1 -1 -1 -1 -1/10 -1/10 0 0", -1},
		{"-9 -9 -9 -9 9 9 9 9", 0},
		{"7/5 7/5 7/5 7/5 7/5 7/5 7/5 7/5", 1},
		{"3/2 3/2 3/2 3/2 3/2 3/2 3/2 3/2", 2},
		{"-1/2 -1/2 -1/2 -1/2 -1/2 -1/2 -1/2 -1/2", 0},
		{"-51/100 -51/100 -51/100 -51/100 -51/100 -51/100 -51/100 -51/100", -1},
		{"-3/2 -3/2 -3/2 -3/2 -3/2 -3/2 -3/2 -3/2", -1},
		{"-2 -2 -2 -2 -2 -2 -2 -2", -1},
		{"5/2 5/2 5/2 5/2 5/2 5/2 5/2 5/2", 3},
		{"12/5 12/5 12/5 12/5 12/5 12/5 12/5 12/5", 2},
		{"7/2 7/2 7/2 7/2 7/2 7/2 7/2 7/2", 3},
		{"4 4 4 4 4 4 4 4", 3},
		{"-5 10 0 3 2 1 7 -4 2", 2},
	} {
		n, e := handicap.Conditions(words(c.l))
		gives(t, "the conditions by "+c.l, n, e, c.want)
	}
	for _, c := range []struct {
		name string
		l    []api.Rat
		want int
	}{
		{"256 numbers", slices.Repeat([]api.Rat{"1"}, 256), 1},
		{"the greatest numbers", slices.Repeat([]api.Rat{most}, 9), 3},
		{"the least numbers", slices.Repeat([]api.Rat{"-" + most}, 9), -1},
		{"a mean of the least and the greatest", slices.Concat(slices.Repeat([]api.Rat{"-" + most}, 4), slices.Repeat([]api.Rat{most}, 4)), 0},
		{"hardly less than 3/2", slices.Repeat([]api.Rat{"14" + most[:590] + "/1" + api.Rat(strings.Repeat("0", 591))}, 8), 1},
	} {
		n, e := handicap.Conditions(c.l)
		gives(t, c.name, n, e, c.want)
	}
	for _, b := range badNumbers {
		for _, front := range []int{0, 3, 9, 255} {
			n, e := handicap.Conditions(append(slices.Repeat([]api.Rat{"1"}, front), b.text))
			fails(t, fmt.Sprint("the number ", b.text, " behind ", front), n, e, b.e)
		}
	}
	n, e := handicap.Conditions(make([]api.Rat, 257))
	fails(t, "257 numbers", n, e, api.ErrMany)
}

func TestP6_4ConditionsByDefinition(t *testing.T) {
	random := rand.New(rand.NewSource(6))
	found := map[int]int{}
	for range 2000 {
		l := make([]api.Rat, random.Intn(20))
		middle := random.Int63n(60) - 25
		for i := range l {
			l[i] = ratOf(middle+random.Int63n(41)-20, []int64{1, 2, 10, 10}[random.Intn(4)])
		}
		n, e := handicap.Conditions(l)
		gives(t, fmt.Sprint("the conditions by ", l), n, e, slowConditions(l))
		found[n]++
	}
	for n := -1; n <= 3; n++ {
		is(t, fmt.Sprint("often enough ", n), found[n] > 30, true)
	}
}

func TestP6_4Course(t *testing.T) {
	is(t, "the slope of a course of medium difficulty", handicap.Base, 100)
	nines := strings.Repeat("9", 590)
	for _, c := range []struct {
		index  api.Rat
		slope  int
		rating api.Rat
		par    int
		want   int
		e      api.Errno
	}{
		{"0", 100, "72", 72, 0, api.OK},
		{"0", 100, "141/2", 71, 0, api.OK},
		{"0", 100, "143/2", 71, 1, api.OK},
		{"0", 100, "1409/20", 71, -1, api.OK},
		{"-2", 110, "72", 72, -2, api.OK},
		{"1/2", 100, "72", 72, 1, api.OK},
		{"-1/2", 100, "72", 72, 0, api.OK},
		{"-3/2", 100, "72", 72, -1, api.OK},
		{"2/5", 100, "721/10", 72, 1, api.OK},
		{"-20", 155, "1", 200, -230, api.OK},
		{"60", 155, "200", 1, 292, api.OK},
		{"60", 55, "72", 72, 33, api.OK},
		{"1/3", 150, "72", 72, 1, api.OK},
		{api.Rat("4" + nines + "/1" + strings.Repeat("0", 591)), 100, "72", 72, 0, api.OK},
		{"1/2", 100, api.Rat("71" + nines + "/1" + strings.Repeat("0", 590)), 72, 0, api.OK},
		{"-20", 100, "72", 72, -20, api.OK},
		{"-2001/100", 100, "72", 72, 0, api.ErrRange},
		{"6001/100", 100, "72", 72, 0, api.ErrRange},
		{most, 100, "72", 72, 0, api.ErrRange},
		{"-" + most, 100, "72", 72, 0, api.ErrRange},
		{"0", 54, "72", 72, 0, api.ErrRange},
		{"0", 156, "72", 72, 0, api.ErrRange},
		{"0", 100, "199/200", 72, 0, api.ErrRange},
		{"0", 100, "40001/200", 72, 0, api.ErrRange},
		{"0", 100, "72", 0, 0, api.ErrRange},
		{"0", 100, "72", 201, 0, api.ErrRange},
		{"0", 100, "72", math.MinInt, 0, api.ErrRange},
		{"0", math.MaxInt, "72", 72, 0, api.ErrRange},
	} {
		n, e := handicap.Course(c.index, c.slope, c.rating, c.par)
		is(t, fmt.Sprint("the course handicap of ", c), n, c.want)
		is(t, fmt.Sprint("the error of ", c), e, c.e)
	}
	for _, b := range badNumbers {
		n, e := handicap.Course(b.text, 156, "1/0", 0)
		fails(t, "the index "+string(b.text), n, e, b.e)
		n, e = handicap.Course("0", 100, b.text, 0)
		fails(t, "the rating "+string(b.text), n, e, b.e)
	}
}

func TestP6_4CourseByDefinition(t *testing.T) {
	random := rand.New(rand.NewSource(7))
	for range 3000 {
		index, slope, par := ratOf(random.Int63n(801)-200, 10), 55+random.Intn(101), 1+random.Intn(200)
		if random.Intn(5) == 0 {
			index = longNumber(random, 1+random.Intn(59))
		}
		rating := randomRating(random)
		n, e := handicap.Course(index, slope, rating, par)
		gives(t, fmt.Sprint("the course handicap of ", index, slope, rating, par), n, e, slowCourse(index, slope, rating, par))
	}
}

func TestP6_4Playing(t *testing.T) {
	for course := -99; course <= 99; course++ {
		for percent := 0; percent <= 100; percent++ {
			n, e := handicap.Playing(course, percent)
			gives(t, fmt.Sprint("of ", course, " with ", percent), n, e, slowTeam([]int{course}, []int{percent}))
		}
	}
	for _, c := range []struct{ course, percent, want int }{
		{10, 85, 9}, {-10, 85, -8}, {-10, 84, -8}, {-10, 86, -9}, {1, 50, 1}, {1, 49, 0}, {-1, 50, 0}, {-1, 51, -1}, {99, 100, 99}, {-99, 100, -99}, {99, 0, 0},
	} {
		n, e := handicap.Playing(c.course, c.percent)
		gives(t, fmt.Sprint(c), n, e, c.want)
	}
	for _, c := range [][2]int{{-100, 50}, {100, 50}, {0, -1}, {0, 101}, {math.MinInt, math.MinInt}, {math.MaxInt, math.MaxInt}} {
		n, e := handicap.Playing(c[0], c[1])
		fails(t, fmt.Sprint(c), n, e, api.ErrRange)
	}
}

func TestP6_4Relative(t *testing.T) {
	for _, c := range []struct{ l, want []int }{
		{[]int{5}, []int{0}},
		{[]int{-5}, []int{0}},
		{[]int{3, 3}, []int{0, 0}},
		{[]int{-3, 0, 4}, []int{0, 3, 7}},
		{[]int{99, -99}, []int{198, 0}},
	} {
		l, e := handicap.Relative(c.l)
		gives(t, fmt.Sprint("relative to each other ", c.l), l, e, c.want)
	}
	for _, c := range []struct {
		l    []int
		want api.Errno
	}{
		{nil, api.ErrEmpty},
		{make([]int, 200), api.OK},
		{make([]int, 201), api.ErrMany},
		{[]int{100}, api.ErrRange},
		{[]int{0, -100}, api.ErrRange},
		{[]int{0, math.MinInt}, api.ErrRange},
	} {
		l, e := handicap.Relative(c.l)
		is(t, fmt.Sprint("the error of ", c.l), e, c.want)
		is(t, "nothing beside an error", e != api.OK && len(l) > 0, false)
	}
}

func TestP6_4Team(t *testing.T) {
	for _, c := range []struct {
		l, percents []int
		want        int
		e           api.Errno
	}{
		{[]int{10, 20}, []int{35, 15}, 7, api.OK}, // 13/2
		{[]int{-10, -20}, []int{35, 15}, -6, api.OK},
		{[]int{9}, []int{50}, 5, api.OK},
		{[]int{9}, []int{49}, 4, api.OK},
		{[]int{1, 1, 1}, []int{20, 20, 9}, 0, api.OK},
		{[]int{1, 1, 1}, []int{20, 20, 10}, 1, api.OK},
		{[]int{99, -99}, []int{100, 100}, 0, api.OK},
		{[]int{99, -99}, []int{0, 100}, -99, api.OK},
		{slices.Repeat([]int{99}, 200), slices.Repeat([]int{100}, 200), 19800, api.OK},
		{slices.Repeat([]int{-99}, 200), slices.Repeat([]int{100}, 200), -19800, api.OK},
		{nil, nil, 0, api.ErrEmpty},
		{nil, []int{1}, 0, api.ErrEmpty},
		{[]int{1}, nil, 0, api.ErrEmpty},
		{make([]int, 201), make([]int, 201), 0, api.ErrMany},
		{[]int{1}, make([]int, 201), 0, api.ErrMany},
		{[]int{100}, []int{50}, 0, api.ErrRange},
		{[]int{1, 2}, []int{50, 101}, 0, api.ErrRange},
		{[]int{1, 2}, []int{50, -1}, 0, api.ErrRange},
		{[]int{1, 2}, []int{50}, 0, api.ErrShape},
		{[]int{1}, []int{50, 50}, 0, api.ErrShape},
		{[]int{1, 2}, []int{101}, 0, api.ErrRange},
	} {
		n, e := handicap.Team(c.l, c.percents)
		is(t, fmt.Sprint("the handicap of ", c.l, " with ", c.percents), n, c.want)
		is(t, fmt.Sprint("the error of ", c.l, " with ", c.percents), e, c.e)
	}
	random := rand.New(rand.NewSource(8))
	for range 2000 {
		var l, percents []int
		for range 1 + random.Intn(6) {
			l, percents = append(l, random.Intn(199)-99), append(percents, random.Intn(101))
		}
		n, e := handicap.Team(l, percents)
		gives(t, fmt.Sprint("the handicap of ", l, " with ", percents), n, e, slowTeam(l, percents))
	}
}

func TestP6_5Examples(t *testing.T) {
	l, e := handicap.Limits(two(), 3)
	gives(t, "the limits", l, e, []int{8, 6})
	c := api.Card{Player: "ann", Entries: []api.Entry{{Strokes: 9}, {Mark: "-"}}}
	n, e := handicap.Adjusted(two(), c, 3)
	gives(t, "the adjusted strokes", n, e, 8+4)
}

func TestP6_5Limits(t *testing.T) {
	four := []api.Hole{{Par: 4, Index: 3}, {Par: 3, Index: 1}, {Par: 5, Index: 4}, {Par: 6, Index: 2}}
	one := []api.Hole{{Par: 3, Index: 1}}
	for _, c := range []struct {
		h      []api.Hole
		course int
		want   []int
	}{
		{two(), 0, []int{6, 5}}, {two(), 1, []int{7, 5}}, {two(), 2, []int{7, 6}}, {two(), -1, []int{6, 4}}, {two(), -2, []int{5, 4}},
		{four, 2, []int{6, 6, 7, 9}}, {four, 7, []int{8, 7, 8, 10}}, {four, -1, []int{6, 5, 6, 8}}, {four, -99, []int{-19, -19, -18, -17}},
		{one, 99, []int{104}}, {one, -99, []int{-94}},
	} {
		l, e := handicap.Limits(c.h, c.course)
		gives(t, fmt.Sprint("the limits of ", c.h, " for ", c.course), l, e, c.want)
	}
	for _, c := range []struct {
		h      []api.Hole
		course int
		want   api.Errno
	}{
		{nil, 1000, api.ErrEmpty}, {make([]api.Hole, 37), 1000, api.ErrMany},
		{[]api.Hole{{Par: 2, Index: 1}}, 1000, api.ErrRange}, {[]api.Hole{{Par: 4, Index: 2}}, 1, api.ErrRange},
		{[]api.Hole{{Par: 4, Index: 1}, {Par: 4, Index: 1}}, 1000, api.ErrTwice},
		{two(), 100, api.ErrRange}, {two(), -100, api.ErrRange}, {two(), math.MinInt, api.ErrRange}, {two(), math.MaxInt, api.ErrRange},
	} {
		l, e := handicap.Limits(c.h, c.course)
		fails(t, fmt.Sprint("the limits of ", c.h, " for ", c.course), l, e, c.want)
	}
}

// entries returns entries without repetitions and bars in the words of chapter 1.
func entries(text string) []api.Entry {
	var l []api.Entry
	for _, word := range strings.Fields(text) {
		entry := api.Entry{Mark: strings.TrimLeft(word, "0123456789")}
		for _, digit := range strings.TrimSuffix(word, entry.Mark) {
			entry.Strokes = 10*entry.Strokes + int(digit-'0')
		}
		l = append(l, entry)
	}
	return l
}

func TestP6_5Adjusted(t *testing.T) {
	for _, c := range []struct {
		words        string
		course, want int
	}{
		{"4 3", 0, 7}, {"1 1", 0, 2}, {"6 5", 0, 11}, {"7 5", 0, 11}, {"6 6", 0, 11}, {"99 99", 0, 11},
		{"8 6", 3, 14}, {"9 6", 3, 14}, {"8 7", 3, 14}, {"7c 4c", 3, 11}, {"99c 6", 3, 14},
		{"x 3", 0, 9}, {"x x", 0, 11}, {"x x", 3, 14}, {"x x", -99, -88},
		{"- 3", 0, 7}, {"- -", 0, 7}, {"- -", 3, 10}, {"- -", -4, 3}, {"- -", -5, 3}, {"- -", -6, 2}, {"- -", -99, 2},
		{"5 5", -99, -88}, {"- x", -99, 1 - 45}, {"x -", 99, 56 + 52},
	} {
		card := api.Card{Player: "ann", Entries: entries(c.words)}
		n, e := handicap.Adjusted(two(), card, c.course)
		gives(t, fmt.Sprint("the adjusted strokes of ", c), n, e, c.want)
	}
	card := api.Card{Player: "ann", Entries: entries("4 3")}
	for _, c := range []struct {
		name   string
		h      []api.Hole
		c      api.Card
		course int
		want   api.Errno
	}{
		{"no holes", nil, api.Card{}, 1000, api.ErrEmpty},
		{"an index", []api.Hole{{Par: 3, Index: 1}, {Par: 3, Index: 3}}, api.Card{}, 1000, api.ErrRange},
		{"no card", two(), api.Card{}, 1000, api.ErrName},
		{"an entry more", two(), api.Card{Player: "ann", Entries: entries("4 3 4")}, 1000, api.ErrShape},
		{"a mark", two(), api.Card{Player: "ann", Entries: entries("4 3C")}, 1000, api.ErrKind},
		{"strokes that are not played", two(), api.Card{Player: "ann", Entries: entries("4 3-")}, 1000, api.ErrRange},
		{"100 strokes", two(), api.Card{Player: "ann", Entries: entries("4 100")}, 0, api.ErrRange},
		{"a course handicap above 99", two(), card, 100, api.ErrRange},
		{"a course handicap below -99", two(), card, -100, api.ErrRange},
	} {
		n, e := handicap.Adjusted(c.h, c.c, c.course)
		fails(t, c.name, n, e, c.want)
	}
}

func TestP6_5ByDefinition(t *testing.T) {
	random := rand.New(rand.NewSource(9))
	for range 5000 {
		n := 1 + random.Intn(36)
		h, c, course := randomHoles(random, n), randomCard(random, n, 4), random.Intn(199)-99
		if random.Intn(2) == 0 {
			course = random.Intn(40) - 4
		}
		strokes, e := handicap.Adjusted(h, c, course)
		gives(t, fmt.Sprint("the adjusted strokes of ", h, c, course), strokes, e, slowAdjusted(h, c, course))
		limits, e := handicap.Limits(h, course)
		want := slowGiven(h, course)
		for i := range want {
			want[i] += h[i].Par + 2
		}
		gives(t, fmt.Sprint("the limits of ", h, course), limits, e, want)
	}
}
