package handicap_test

import (
	"fmt"
	"math"
	"math/rand"
	"slices"
	"testing"

	"niblick/api"
	"niblick/handicap"
)

func TestP6_3Examples(t *testing.T) {
	l, e := handicap.Counting(sample(3))
	gives(t, "Counting", l, e, []int{2})
	l, e = handicap.Counting(sample(4))
	gives(t, "Counting of four", l, e, []int{4})
	l, e = handicap.Reductions(sample(4))
	gives(t, "Reductions", l, e, []int{1, 1, 1, 1})
	low, e := handicap.Low(sample(4), 40)
	gives(t, "the low for the day 40", low, e, "93/10")
	fixed := ok2(t)(handicap.Correct(sample(4), score(2, 20, 91)))
	l, e = handicap.Counting(fixed[:3])
	gives(t, "Counting of the corrected scores", l, e, []int{1})
	index, e := handicap.Index(fixed, 30)
	gives(t, "the corrected index", index, e, "27/2")
	l, e = handicap.Changed(sample(4), fixed)
	gives(t, "Changed", l, e, []int{2, 3, 4})
}

func TestP6_3Index(t *testing.T) {
	for _, c := range []struct {
		day  int
		want api.Rat
		e    api.Errno
	}{
		{0, "", api.ErrNone}, {9, "", api.ErrNone}, {10, "", api.ErrNone}, {20, "", api.ErrNone}, {29, "", api.ErrNone},
		{30, "93/10", api.OK}, {39, "93/10", api.OK}, {40, "-6/5", api.OK}, {41, "-6/5", api.OK}, {99999, "-6/5", api.OK},
		{-1, "", api.ErrRange}, {100000, "", api.ErrRange}, {math.MinInt, "", api.ErrRange}, {math.MaxInt, "", api.ErrRange},
	} {
		x, e := handicap.Index(sample(4), c.day)
		is(t, fmt.Sprint("the index of the day ", c.day), x, c.want)
		is(t, fmt.Sprint("the error of the day ", c.day), e, c.e)
	}
	x, e := handicap.Index(nil, 1)
	fails(t, "no scores", x, e, api.ErrNone)
	x, e = handicap.Index(nil, -1)
	fails(t, "no scores and no day", x, e, api.ErrRange)
	// Of one day, that with the greatest number is the last one.
	day := []handicap.Score{score(9, 5, 90), score(1, 5, 95), score(3, 5, 95), score(4, 5, 95)}
	x, e = handicap.Index(day, 5)
	gives(t, "four scores of one day", x, e, "14")
	x, e = handicap.Index(row([2]int{0, 10}, [2]int{0, 10}, [2]int{1, 10}), 0)
	fails(t, "the day 0", x, e, api.ErrNone)
	x, e = handicap.Index(row([2]int{0, 10}, [2]int{0, 10}, [2]int{0, 10}), 0)
	gives(t, "three scores of the day 0", x, e, "17/2")
}

func TestP6_3Low(t *testing.T) {
	for _, c := range []struct {
		day  int
		want api.Rat
		e    api.Errno
	}{
		{0, "", api.ErrNone}, {10, "", api.ErrNone}, {30, "", api.ErrNone},
		{31, "93/10", api.OK}, {40, "93/10", api.OK}, {41, "-6/5", api.OK}, {395, "-6/5", api.OK}, {405, "-6/5", api.OK},
		{406, "", api.ErrNone}, {99999, "", api.ErrNone},
		{-1, "", api.ErrRange}, {100000, "", api.ErrRange}, {math.MinInt, "", api.ErrRange}, {math.MaxInt, "", api.ErrRange},
	} {
		x, e := handicap.Low(sample(4), c.day)
		is(t, fmt.Sprint("the low of the day ", c.day), x, c.want)
		is(t, fmt.Sprint("the error of the day ", c.day), e, c.e)
	}
	x, e := handicap.Low(nil, 1)
	fails(t, "no scores", x, e, api.ErrNone)
	x, e = handicap.Low(sample(2), 50)
	fails(t, "an index that is not known", x, e, api.ErrNone)
	// A low that is not the last index, and is left behind after a year.
	l := append(onDays(10, 5, 5, 5), onDays(100, 30, 30, 30, 30, 30)...)
	for _, c := range []struct {
		day  int
		want api.Rat
	}{{13, "7/2"}, {101, "7/2"}, {200, "7/2"}, {12 + 365, "7/2"}, {13 + 365, "4"}} {
		x, e := handicap.Low(l, c.day)
		gives(t, fmt.Sprint("the low in front of the day ", c.day), x, e, c.want)
	}
}

func TestP6_3Counting(t *testing.T) {
	for _, c := range []struct {
		name string
		l    []handicap.Score
		want []int
	}{
		{"nothing", nil, nil},
		{"two scores", onDays(1, 10, 10), nil},
		{"the least one", onDays(1, 12, 10, 11), []int{2}},
		{"the latest of equal ones", onDays(1, 10, 10, 10), []int{3}},
		{"the later one of two", onDays(1, 10, 10, 11), []int{2}},
		{"the two last ones of five", onDays(1, 10, 10, 10, 10, 10), []int{4, 5}},
		{"the lesser one and the latest", onDays(1, 9, 10, 10, 10, 10), []int{1, 5}},
		{"the last one by its number, not in the list", []handicap.Score{score(8, 3, 90), score(2, 3, 90), score(5, 3, 90)}, []int{8}},
		{"ascending numbers", []handicap.Score{score(8, 1, 80), score(5, 2, 90), score(6, 3, 90), score(2, 4, 80), score(7, 5, 90)}, []int{2, 8}},
		{"eight of twenty", onDays(1, slices.Repeat([]int{10}, 20)...), []int{13, 14, 15, 16, 17, 18, 19, 20}},
		{"none in front of the last twenty", onDays(1, slices.Concat([]int{9, 9}, slices.Repeat([]int{10}, 20))...), []int{15, 16, 17, 18, 19, 20, 21, 22}},
		// One stroke is taken off the first four; the fifth one of 9 has the value 9 as the fourth one has.
		{"equal values, not differentials", onDays(1, 20, 20, 20, 10, 9, 30, 30), []int{4, 5}},
		{"the later one of equal values", onDays(1, 20, 20, 20, 10, 19, 19, 9), []int{4, 7}},
	} {
		l, e := handicap.Counting(c.l)
		gives(t, c.name, l, e, c.want)
	}
}

// Reductions are in the order of the scores.
func TestP6_3Reductions(t *testing.T) {
	twenty := slices.Repeat([]int{20}, 20)
	repeat := func(n, times int) []int { return slices.Repeat([]int{n}, times) }
	for _, c := range []struct {
		name string
		l    []handicap.Score
		want []int
	}{
		{"nothing", nil, nil},
		{"no exceptional score", onDays(1, 20, 20, 20), []int{0, 0, 0}},
		{"one by 2 strokes", onDays(1, 20, 20, 20, 5), []int{2, 2, 2, 2}},
		{"nothing off later ones", onDays(1, 20, 20, 20, 5, 20), []int{2, 2, 2, 2, 0}},
		{"one after another", onDays(1, 20, 20, 20, 10, 1), []int{2, 2, 2, 2, 1}},
		{"two by 2 strokes", onDays(1, 20, 20, 20, 5, -20), []int{4, 4, 4, 4, 2}},
		{"the last twenty", onDays(1, append(slices.Clone(twenty), 10)...), append([]int{0}, repeat(2, 20)...)},
		{"the nineteen before it", onDays(1, slices.Concat(twenty, []int{20, 20, 10, 20})...), slices.Concat(repeat(0, 3), repeat(2, 20), []int{0})},
		{"all of twenty", onDays(1, append(slices.Clone(twenty[:19]), 10)...), repeat(2, 20)},
		{"by their order, not the list", []handicap.Score{even(1, 9, 200, 0), even(2, 1, 120, 0), even(3, 2, 120, 0), even(4, 3, 120, 0), even(5, 4, 110, 0)}, []int{1, 1, 1, 1, 0}},
	} {
		l, e := handicap.Reductions(c.l)
		gives(t, c.name, l, e, c.want)
	}
}

func TestP6_3Changed(t *testing.T) {
	l := onDays(1, 20, 21, 22, 23, 24, 25)
	with := func(s handicap.Score) []handicap.Score { return ok2(t)(handicap.Correct(l, s)) }
	harder := func(s handicap.Score) handicap.Score {
		s.Gross, s.Conditions = s.Gross+2, 2
		return s
	}
	turned := slices.Clone(l)
	slices.Reverse(turned)
	for _, c := range []struct {
		name string
		a, b []handicap.Score
		want []int
	}{
		{"nothing", nil, nil, nil},
		{"nothing and one", nil, l[:1], []int{1}},
		{"two and none", l[:2], nil, []int{1, 2}},
		{"the same", l, l, nil},
		{"the same in another order", l, turned, nil},
		{"one that does not count", l, with(even(6, 6, 126, 0)), []int{6}},
		{"one that is not the last one", l, with(even(4, 4, 126, 0)), []int{4}},
		{"one that counts from the fifth one on", l, with(even(2, 2, 122, 0)), []int{2, 5, 6}},
		{"one that always counts", l, with(even(1, 1, 119, 0)), []int{1, 3, 4, 5, 6}},
		{"another day alone", l, with(even(6, 7, 125, 0)), []int{6}},
		{"another course with the same differential", l, with(harder(l[5])), nil},
		{"a first score more", l, append(slices.Clone(l), even(9, 0, 150, 0)), []int{2, 3, 4, 5, 9}},
		{"nothing in common", onDays(1, 20, 20), onDays(3, 20, 20), []int{1, 2, 3, 4}},
		{"an exceptional score that is less so", onDays(1, 20, 20, 20, 5), onDays(1, 20, 20, 20, 20), []int{4}},
		{"another year", append(slices.Clone(l), even(7, 371, 200, 0)), append(slices.Clone(l), even(7, 372, 200, 0)), []int{7}},
	} {
		got, e := handicap.Changed(c.a, c.b)
		gives(t, c.name, got, e, c.want)
		got, e = handicap.Changed(c.b, c.a)
		gives(t, c.name+", the other way round", got, e, c.want)
	}
	got, e := handicap.Changed(many(256), nil)
	is(t, "256 scores", len(ok(t, got, e)), 256)
	is(t, "in order", slices.IsSorted(got), true)
}

func TestP6_3ByDefinition(t *testing.T) {
	random := rand.New(rand.NewSource(4))
	for range 150 {
		p := randomPlayer(random)
		l := randomScores(random, random.Intn(45), p)
		slow := slowHistory(l)
		for range 10 {
			day := random.Intn(p.days + 400)
			if len(l) > 0 && random.Intn(2) == 0 {
				day = l[random.Intn(len(l))].Day + []int{-1, 0, 1, 364, 365, 366}[random.Intn(6)]
			}
			if day < 0 {
				continue
			}
			what := fmt.Sprint("the day ", day)
			x, e := handicap.Index(l, day)
			if want := slowAt(slow, day); want == nil {
				fails(t, "the index of "+what, x, e, api.ErrNone)
			} else {
				gives(t, "the index of "+what, x, e, rat(want))
			}
			x, e = handicap.Low(l, day)
			if want := slowLow(slow, day); want == nil {
				fails(t, "the low of "+what, x, e, api.ErrNone)
			} else {
				gives(t, "the low of "+what, x, e, rat(want))
			}
		}
		last := slowStep{}
		if len(slow) > 0 {
			last = slow[len(slow)-1]
		}
		counting, e := handicap.Counting(l)
		gives(t, fmt.Sprint("what counts of ", l), counting, e, last.counting)
		taken, e := handicap.Reductions(l)
		gives(t, fmt.Sprint("the reductions of ", l), taken, e, last.taken)
	}
}

// changedAtRandom returns scores of which one is another one, or missing.
func changedAtRandom(random *rand.Rand, l []handicap.Score) []handicap.Score {
	l = slices.Clone(l)
	if len(l) == 0 {
		return l
	}
	s := &l[random.Intn(len(l))]
	switch random.Intn(5) {
	case 0:
		return l[1:]
	case 1:
		s.Day++
	case 2:
		s.Gross++
	case 3:
		s.Conditions = 0
	case 4:
		s.Gross -= random.Intn(min(s.Gross, 30))
	}
	return l
}

func TestP6_3ChangedByDefinition(t *testing.T) {
	random := rand.New(rand.NewSource(5))
	some := 0
	for range 250 {
		a := randomScores(random, random.Intn(40), randomPlayer(random))
		b := changedAtRandom(random, changedAtRandom(random, a))
		want := slowChanged(slowHistory(a), slowHistory(b))
		l, e := handicap.Changed(a, b)
		gives(t, fmt.Sprint("what changes between ", a, " and ", b), l, e, want)
		if len(want) > 0 && len(want) < len(a) {
			some++
		}
	}
	is(t, "often not all", some > 100, true)
}
