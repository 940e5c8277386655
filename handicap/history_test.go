package handicap_test

import (
	"fmt"
	"math"
	"math/rand"
	"slices"
	"testing"

	"niblick/api"
	"niblick/handicap"
)

func TestP6_2Examples(t *testing.T) {
	l, e := handicap.History(sample(4))
	gives(t, "the history", l, e, []handicap.Step{
		{Day: 10, Number: 1, Differential: "15", Index: "0"},
		{Day: 20, Number: 2, Differential: "54/5", Index: "0"},
		{Day: 30, Number: 3, Differential: "96/5", Known: true, Index: "93/10"},
		{Day: 40, Number: 4, Differential: "4/5", Exceptional: 1, Known: true, Index: "-6/5"},
	})
	fixed := ok2(t)(handicap.Correct(sample(4), score(2, 20, 91)))
	l, e = handicap.History(fixed)
	gives(t, "the corrected history", l, e, []handicap.Step{
		{Day: 10, Number: 1, Differential: "15", Index: "0"},
		{Day: 20, Number: 2, Differential: "79/5", Index: "0"},
		{Day: 30, Number: 3, Differential: "96/5", Known: true, Index: "27/2"},
		{Day: 40, Number: 4, Differential: "4/5", Exceptional: 2, Known: true, Index: "-11/5"},
	})
}

// ok2 returns what a function returned, which has no error.
func ok2(t *testing.T) func(l []handicap.Score, e api.Errno) []handicap.Score {
	return func(l []handicap.Score, e api.Errno) []handicap.Score {
		t.Helper()
		return ok(t, l, e)
	}
}

func TestP6_2Rule(t *testing.T) {
	is(t, "the last scores", handicap.Last, 20)
	counts := []int{0, 0, 0, 1, 1, 2, 2, 2, 3, 3, 4, 4, 4, 5, 5, 6, 6, 6, 7, 7, 8, 8, 8, 8, 8, 8}
	added := []api.Rat{"0", "0", "0", "-3/2", "-1", "-1/2"}
	for n := range counts {
		k, x, e := handicap.Rule(n)
		gives(t, fmt.Sprint("how many of ", n), k, e, counts[n])
		want := api.Rat("0")
		if n < len(added) {
			want = added[n]
		}
		is(t, fmt.Sprint("what is added of ", n), x, want)
	}
	for _, n := range []int{40, 50, 100, 256, 257, 999999998, 999999999} {
		k, x, e := handicap.Rule(n)
		gives(t, fmt.Sprint("how many of ", n), k, e, 8)
		is(t, fmt.Sprint("what is added of ", n), x, "0")
	}
	for _, n := range []int{-1, -3, 1000000000, math.MinInt, math.MaxInt} {
		k, x, e := handicap.Rule(n)
		fails(t, fmt.Sprint("how many of ", n), k, e, api.ErrRange)
		is(t, fmt.Sprint("what is added of ", n), x, "")
	}
}

// lastStep returns the last step of scores.
func lastStep(t *testing.T, l []handicap.Score) handicap.Step {
	t.Helper()
	steps, e := handicap.History(l)
	ok(t, steps, e)
	return steps[len(steps)-1]
}

func TestP6_2FewScores(t *testing.T) {
	steps, e := handicap.History(nil)
	gives(t, "no scores", steps, e, nil)
	is(t, "one score", lastStep(t, onDays(1, 12)), handicap.Step{Day: 1, Number: 1, Differential: "12", Index: "0"})
	is(t, "two scores", lastStep(t, onDays(1, 12, -90)), handicap.Step{Day: 2, Number: 2, Differential: "-90", Index: "0"})
	for _, c := range []struct {
		name string
		l    []handicap.Score
		want api.Rat
	}{
		{"one of three", onDays(1, 12, 10, 11), "17/2"},
		{"one of four", onDays(1, 12, 10, 11, 13), "9"},
		{"two of five", onDays(1, 12, 10, 11, 13, 14), "10"},
		{"two of six", onDays(1, 12, 10, 11, 13, 14, 15), "21/2"},
		{"two of seven", onDays(1, 12, 10, 11, 13, 14, 15, 16), "21/2"},
		{"three of eight", onDays(1, 12, 10, 11, 13, 14, 15, 16, 17), "11"},
		{"a mean that is rounded down", onDays(1, 10, 10, 11, 13, 14, 15, 16, 17), "103/10"},
		{"a mean that is rounded up", onDays(1, 10, 11, 11, 13, 14, 15, 16, 17), "107/10"},
		{"half a tenth", append(onDays(1, 12, 10, 11, 13, 14), even(6, 6, 109, 9)), "10"},
		{"half a tenth below 0", append(onDays(1, 0, 0, 0, 0, 0), even(6, 6, 99, 9)), "0"},
		{"a differential far below 0", onDays(1, 0, 0, -99), "-201/2"},
	} {
		is(t, c.name, lastStep(t, c.l).Index, c.want)
	}
}

// Three scores of 20 have the index 37/2.
func TestP6_2Exceptional(t *testing.T) {
	for _, c := range []struct {
		gross, tenths int
		want          int
		index         api.Rat // the value of the fourth score less 1
	}{
		{150, 0, 0, "19"}, {111, 9, 0, "109/10"}, {111, 6, 0, "53/5"},
		{111, 5, 1, "19/2"}, {110, 0, 1, "8"}, {108, 6, 1, "33/5"},
		{108, 5, 2, "11/2"}, {108, 4, 2, "27/5"}, {40, 0, 2, "-63"},
	} {
		step := lastStep(t, append(onDays(1, 20, 20, 20), even(4, 4, c.gross, c.tenths)))
		is(t, fmt.Sprint("the strokes for ", c.gross, " and ", c.tenths), step.Exceptional, c.want)
		is(t, fmt.Sprint("the index with ", c.gross, " and ", c.tenths), step.Index, c.index)
	}
	step := lastStep(t, onDays(1, 20, 20, 1))
	is(t, "without an index in front of it", step.Exceptional, 0)
	step = lastStep(t, row([2]int{5, 20}, [2]int{5, 20}, [2]int{5, 20}, [2]int{5, 10}))
	is(t, "an index of the same day", step.Exceptional, 1)
	// The mean is 20 and 1/15, the index 201/10.
	l := append(onDays(1, 20, 30, 30, 30, 30, 30), even(7, 7, 120, 1), even(8, 8, 120, 1))
	is(t, "an index that is rounded", lastStep(t, l).Index, "201/10")
	is(t, "7 above it, as it is rounded", lastStep(t, append(l, even(9, 9, 113, 1))).Exceptional, 1)
	is(t, "not 7 above it", lastStep(t, append(l, even(9, 9, 113, 2))).Exceptional, 0)
}

// worse returns three scores of 20 on the days 1 to 3, whose index is 37/2, and twenty with another differential on a later day.
func worse(day, gross, tenths int) []handicap.Score {
	l := onDays(1, 20, 20, 20)
	for i := range 20 {
		l = append(l, even(10+i, day, gross, tenths))
	}
	return l
}

func TestP6_2Caps(t *testing.T) {
	is(t, "a year", handicap.Year, 365)
	for _, c := range []struct {
		gross, tenths int
		want          api.Rat
	}{
		{120, 0, "20"}, {121, 4, "107/5"}, {121, 5, "43/2"},
		{121, 6, "108/5"}, {121, 7, "108/5"}, {122, 5, "22"}, {123, 5, "45/2"},
		{125, 3, "117/5"}, {125, 4, "47/2"}, {125, 5, "47/2"}, {125, 6, "47/2"}, {130, 0, "47/2"}, {300, 0, "47/2"},
	} {
		what := fmt.Sprint("the cap of ", c.gross, " and ", c.tenths)
		is(t, what, lastStep(t, worse(50, c.gross, c.tenths)).Index, c.want)
		is(t, what+" at the end of the year", lastStep(t, worse(3+365, c.gross, c.tenths)).Index, c.want)
		is(t, what+" the day after", lastStep(t, worse(4, c.gross, c.tenths)).Index, c.want)
	}
	is(t, "a year without an index", lastStep(t, worse(3+366, 130, 0)).Index, "30")
	is(t, "the same day", lastStep(t, worse(3, 130, 0)).Index, "30")
	// The first index that is known is that of the day 3, the one of the day 4 is less: 18.
	l := append(worse(50, 130, 0), even(4, 4, 119, 0))
	is(t, "the least of two", lastStep(t, l).Index, "23")
	l = append(worse(4+365, 130, 0), even(4, 4, 119, 0))
	is(t, "the least of two at the end of its year", lastStep(t, l).Index, "23")
}

func TestP6_2MaxIndex(t *testing.T) {
	is(t, "the greatest index", handicap.MaxIndex, 60)
	for _, c := range []struct {
		gross, tenths int
		want          api.Rat
	}{
		{161, 4, "599/10"}, {161, 5, "60"}, {161, 6, "60"}, {162, 0, "60"}, {900, 0, "60"},
	} {
		l := []handicap.Score{even(1, 1, 950, 0), even(2, 2, 950, 0), even(3, 3, c.gross, c.tenths)}
		is(t, fmt.Sprint("with ", c.gross, " and ", c.tenths), lastStep(t, l).Index, c.want)
	}
	l := onDays(1, 60, 60, 60) // 117/2
	for i := range 20 {
		l = append(l, even(10+i, 20, 200, 0))
	}
	is(t, "less than the cap", lastStep(t, l).Index, "60")
	is(t, "what is exceptional behind it", lastStep(t, append(onDays(1, 99, 99, 99), even(4, 4, 153, 0))).Exceptional, 1)
	is(t, "what is not", lastStep(t, append(onDays(1, 99, 99, 99), even(4, 4, 153, 1))).Exceptional, 0)
}

// A value is less all strokes that were taken off up to then, not those of later steps.
func TestP6_2Values(t *testing.T) {
	steps, e := handicap.History(onDays(1, 20, 20, 20, 10, 2))
	ok(t, steps, e)
	for i, want := range []struct {
		exceptional int
		index       api.Rat
	}{{0, "0"}, {0, "0"}, {0, "37/2"}, {1, "8"}, {0, "5"}} {
		is(t, fmt.Sprint("exceptional at ", i), steps[i].Exceptional, want.exceptional)
		is(t, fmt.Sprint("the index at ", i), steps[i].Index, want.index)
	}
	// The value of the day 4 is 10 - 1, that of the day 5 is 1 - 1: both count, and -1/2.
	l := onDays(1, 20, 20, 20, 10, 1)
	is(t, "the strokes of two", ok1(t)(handicap.Reductions(l)), []int{2, 2, 2, 2, 1})
	is(t, "the index of two", lastStep(t, l).Index, "7/2")
}

// ok1 returns numbers that a function returned without an error.
func ok1(t *testing.T) func(l []int, e api.Errno) []int {
	return func(l []int, e api.Errno) []int {
		t.Helper()
		return ok(t, l, e)
	}
}

// Of 21 scores the first one is not looked at any more. All are of one day, which has no low.
func TestP6_2LastScores(t *testing.T) {
	l := row(slices.Concat([][2]int{{1, 15}}, slices.Repeat([][2]int{{1, 20}}, 20))...)
	is(t, "with the first score", lastStep(t, l[:20]).Index, "97/5") // 155/8 is rounded
	is(t, "without it", lastStep(t, l).Index, "20")
}

func TestP6_2ByDefinition(t *testing.T) {
	random := rand.New(rand.NewSource(3))
	found := map[string]int{}
	for range 500 {
		l := randomScores(random, random.Intn(60), randomPlayer(random))
		slow := slowHistory(l)
		steps, e := handicap.History(l)
		is(t, "the error of a history", e, api.OK)
		is(t, "the steps", len(steps), len(slow))
		for i, s := range slow {
			is(t, fmt.Sprint("the step ", i), steps[i], s.Step)
			found[fmt.Sprint("exceptional ", s.Exceptional)]++
			if low := slowLow(slow, s.Day); low != nil && s.Known {
				switch above := minus(s.index, low); {
				case above.Cmp(number(5)) == 0:
					found["at the hard cap"]++
				case above.Cmp(number(3)) > 0:
					found["above the soft cap"]++
				}
			}
			if s.Index == "60" {
				found["at the most"]++
			}
		}
	}
	for _, what := range []string{"exceptional 1", "exceptional 2", "at the hard cap", "above the soft cap", "at the most"} {
		is(t, fmt.Sprint(what, " often enough: ", found[what]), found[what] > 100, true)
	}
}
