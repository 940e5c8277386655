package rating_test

import (
	"fmt"
	"slices"
	"strings"
	"testing"

	"niblick/api"
	"niblick/rating"
)

func scratch() rating.Level { return sample().Levels[0] }

// checkLevel checks the error of a level by itself, and in a course, where all functions return it.
func checkLevel(t *testing.T, what string, l rating.Level, want api.Errno) {
	t.Helper()
	is(t, what, rating.CheckLevel(l), want)
	c := sample()
	c.Levels = []rating.Level{c.Levels[1], l}
	is(t, what, rating.CheckCourse(c), want)
	if want == api.OK {
		return
	}
	for _, a := range answers(c, question{level: 1, scores: []int{1}}) {
		refuses(t, what, a, want)
	}
}

func TestP3_1CheckLevelInOrder(t *testing.T) {
	inOrder(t, scratch, checkLevel, []defect[rating.Level]{
		{"no name", func(l *rating.Level) { l.Name = "" }, api.ErrName},
		{"First without its form", func(l *rating.Level) { l.First = "2/4" }, api.ErrForm},
		{"First too short", func(l *rating.Level) { l.First = "1/2" }, api.ErrRange},
		{"Next too large", func(l *rating.Level) { l.Next = most + "0" }, api.ErrLarge},
		{"Next too long", func(l *rating.Level) { l.Next = "10001" }, api.ErrRange},
		{"no table", func(l *rating.Level) { l.Strokes = nil }, api.ErrEmpty},
		{"65 breakpoints", func(l *rating.Level) { l.Strokes = append(l.Strokes, make([]api.Point, 63)...) }, api.ErrMany},
		{"X without its form", func(l *rating.Level) { l.Strokes[1].X = "x" }, api.ErrForm},
		{"Y too large", func(l *rating.Level) { l.Strokes[1].Y = most + "0" }, api.ErrLarge},
		{"X in a wrong order", func(l *rating.Level) { l.Strokes[1].X = "100" }, api.ErrOrder},
		{"Y descending", func(l *rating.Level) { l.Strokes[1].Y = "2" }, api.ErrOrder},
		{"17 weights", func(l *rating.Level) { l.Weights = append(l.Weights, make([]rating.Weight, 15)...) }, api.ErrMany},
		{"a kind that is no name", func(l *rating.Level) { l.Weights[0].Kind = "1" }, api.ErrName},
		{"strokes without their form", func(l *rating.Level) { l.Weights[0].Strokes = "" }, api.ErrForm},
		{"strokes below 0", func(l *rating.Level) { l.Weights[0].Strokes = "-1/" + most }, api.ErrRange},
		{"a second kind that is no name", func(l *rating.Level) { l.Weights[1].Kind = "" }, api.ErrName},
		{"a kind twice", func(l *rating.Level) { l.Weights[1].Kind = "bunker" }, api.ErrTwice},
		{"second strokes too large", func(l *rating.Level) { l.Weights[1].Strokes = most + "0" }, api.ErrLarge},
		{"second strokes below 0", func(l *rating.Level) { l.Weights[1].Strokes = "-1" }, api.ErrRange},
	})
	checkLevel(t, "scratch", scratch(), api.OK)
	is(t, "nothing", rating.CheckLevel(rating.Level{}), api.ErrName)
}

func TestP3_1CheckLevelRanges(t *testing.T) {
	// A yard, and the longest stroke, by the least part more or less that a number can say.
	part, large := "1/1"+api.Rat(strings.Repeat("0", 595)), "1"+api.Rat(strings.Repeat("0", 595))
	for _, x := range []struct {
		yards api.Rat
		want  api.Errno
	}{
		{"1", api.OK}, {"10000", api.OK}, {"3/2", api.OK}, {"19999/2", api.OK}, {"1000/3", api.OK},
		{"0", api.ErrRange}, {"-1", api.ErrRange}, {"-100", api.ErrRange}, {"99/100", api.ErrRange}, {"20001/2", api.ErrRange}, {"10001", api.ErrRange}, {most, api.ErrRange}, {"-" + most, api.ErrRange},
		{rat(minus(whole(1), bigRat(part))), api.ErrRange}, {rat(plus(whole(1), bigRat(part))), api.OK},
		{rat(minus(whole(10000), bigRat(part))), api.OK}, {rat(plus(whole(10000), bigRat(part))), api.ErrRange},
		{large, api.ErrRange},
	} {
		l := scratch()
		l.First = x.yards
		checkLevel(t, "First", l, x.want)
		l = scratch()
		l.Next = x.yards
		checkLevel(t, "Next", l, x.want)
	}
	for _, x := range badNumbers {
		for _, spoil := range []func(l *rating.Level){
			func(l *rating.Level) { l.First = x.text },
			func(l *rating.Level) { l.Next = x.text },
			func(l *rating.Level) { l.Strokes[0].X = x.text },
			func(l *rating.Level) { l.Strokes[1].Y = x.text },
			func(l *rating.Level) { l.Weights[0].Strokes = x.text },
		} {
			l := scratch()
			spoil(&l)
			checkLevel(t, "no number", l, x.e)
		}
	}
}

func TestP3_1CheckLevelNames(t *testing.T) {
	for _, name := range []string{"a", "Z", strings.Repeat("a", 24), "a_1"} {
		l := scratch()
		l.Name, l.Weights[0].Kind = name, name
		checkLevel(t, name, l, api.OK)
	}
	for _, name := range []string{"", "1", "_", "a b", strings.Repeat("a", 25), "é", "a\x00"} {
		l := scratch()
		l.Name = name
		checkLevel(t, name, l, api.ErrName)
		l = scratch()
		l.Weights[0].Kind = name
		checkLevel(t, name, l, api.ErrName)
	}
	l := scratch()
	l.Name = "water"
	checkLevel(t, "the name of a kind", l, api.OK)
}

func TestP3_1CheckLevelTables(t *testing.T) {
	for _, x := range []struct {
		name  string
		table []api.Point
		want  api.Errno
	}{
		{"one breakpoint", []api.Point{{X: "-5", Y: "-7/2"}}, api.OK},
		{"equal Y", []api.Point{{X: "1", Y: "3"}, {X: "2", Y: "3"}, {X: "3", Y: "3"}, {X: "4", Y: "7/2"}}, api.OK},
		{"Y below 0", []api.Point{{X: "1", Y: "-3"}, {X: "2", Y: "-5/2"}, {X: "3", Y: "0"}}, api.OK},
		{"Y descending at the end", []api.Point{{X: "1", Y: "3"}, {X: "2", Y: "4"}, {X: "3", Y: "5"}, {X: "4", Y: "49/10"}}, api.ErrOrder},
		{"Y descending by little", []api.Point{{X: "1", Y: "1/3"}, {X: "2", Y: "333/1000"}}, api.ErrOrder},
		{"a table before Y", []api.Point{{X: "1", Y: "3"}, {X: "2", Y: "2"}, {X: "3", Y: "x"}}, api.ErrForm},
		{"another table before Y", []api.Point{{X: "1", Y: "3"}, {X: "2", Y: "2"}, {X: "3", Y: most + "0"}}, api.ErrLarge},
	} {
		l := scratch()
		l.Strokes = x.table
		checkLevel(t, x.name, l, x.want)
	}
	for n := range 66 {
		l := scratch()
		l.Strokes = nil
		for i := range n {
			l.Strokes = append(l.Strokes, api.Point{X: ratOf(int64(i), 1), Y: ratOf(int64(i/2), 3)})
		}
		want := api.OK
		switch n {
		case 0:
			want = api.ErrEmpty
		case 65:
			want = api.ErrMany
		}
		checkLevel(t, "so many breakpoints", l, want)
	}
}

func TestP3_1CheckLevelWeights(t *testing.T) {
	for n := range 18 {
		l := scratch()
		l.Weights = nil
		for i := range n {
			l.Weights = append(l.Weights, rating.Weight{Kind: fmt.Sprint("kind", i), Strokes: ratOf(int64(i), 7)})
		}
		want := api.OK
		if n == 17 {
			want = api.ErrMany
		}
		checkLevel(t, "so many weights", l, want)
		if n < 2 || n > 16 {
			continue
		}
		twice := l
		twice.Weights = slices.Clone(l.Weights)
		twice.Weights[n-1].Kind = "kind0"
		checkLevel(t, "the first kind again", twice, api.ErrTwice)
		twice.Weights[n-1].Strokes = "-1"
		checkLevel(t, "the first kind again with another error", twice, api.ErrTwice)
		twice.Weights[n-2].Strokes = "-1"
		checkLevel(t, "an error before the first kind again", twice, api.ErrRange)
	}
	l := scratch()
	l.Weights = []rating.Weight{{Kind: "water", Strokes: "1"}, {Kind: "water", Strokes: "1"}, {Kind: "tree", Strokes: "x"}, {}}
	checkLevel(t, "a kind twice before other errors", l, api.ErrTwice)
	l = scratch()
	l.Weights = append(l.Weights, rating.Weight{Kind: "Water", Strokes: most})
	checkLevel(t, "another kind with a great weight", l, api.OK)
}
