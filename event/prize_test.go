package event_test

import (
	"fmt"
	"math"
	"math/rand"
	"slices"
	"testing"

	"niblick/api"
	"niblick/card"
	"niblick/event"
)

func TestP7_5Examples(t *testing.T) {
	l, e := event.Prizes(sampleField(), []int{1001, 500, 200})
	gives(t, "prizes", l, e, []int{751, 750, 200, 0})
	l, e = event.Prizes(field("a 70", "b 70"), []int{1001, 500})
	gives(t, "two who are tied", l, e, []int{751, 750})
}

func TestP7_5Purse(t *testing.T) {
	for _, c := range []struct {
		total   int
		weights []int
		want    []int
	}{
		{1000, []int{3, 2, 1}, []int{500, 333, 167}},
		{10, []int{1, 1, 1}, []int{4, 3, 3}},
		{0, []int{5, 4, 0}, []int{0, 0, 0}},
		{7, []int{1, 0, 0}, []int{7, 0, 0}},
		{999999999, []int{999999999, 999999999}, []int{500000000, 499999999}},
		{100, []int{9}, []int{100}},
	} {
		l, e := event.Purse(c.total, c.weights)
		gives(t, fmt.Sprint(c.total, " by ", c.weights), l, e, c.want)
	}
	l, e := event.Purse(256, slices.Repeat([]int{1}, 256))
	gives(t, "256 weights", l, e, slices.Repeat([]int{1}, 256))
	for _, c := range []struct {
		name    string
		total   int
		weights []int
		want    api.Errno
	}{
		{"-1 in total", -1, nil, api.ErrRange},
		{"1000000000 in total", 1000000000, []int{1, 2}, api.ErrRange},
		{"no weights", 1, nil, api.ErrEmpty},
		{"257 weights", 1, make([]int, 257), api.ErrMany},
		{"a negative weight", 1, []int{1, -1}, api.ErrRange},
		{"a great weight", 1, []int{1000000000}, api.ErrRange},
		{"the least weight behind the greatest one", 1, []int{math.MaxInt, math.MinInt}, api.ErrRange},
		{"weights of 0", 1, []int{0, 0}, api.ErrZero},
		{"ascending weights", 1, []int{0, 1}, api.ErrOrder},
		{"a greater weight at the end", 1, []int{3, 2, 2, 3}, api.ErrOrder},
		{"a negative weight behind a greater one", 1, []int{1, 2, -1}, api.ErrRange},
	} {
		l, e := event.Purse(c.total, c.weights)
		fails(t, c.name, l, e, c.want)
	}
}

func TestP7_5PurseIsShares(t *testing.T) {
	random := rand.New(rand.NewSource(10))
	for range 2000 {
		weights := make([]int, 1+random.Intn(8))
		for i := range weights {
			weights[i] = random.Intn(pick(random, 2, 10, 1000000000))
		}
		if random.Intn(4) > 0 {
			slices.SortFunc(weights, func(a, b int) int { return b - a })
		}
		total := random.Intn(pick(random, 10, 1000, 1000000000))
		want, e := card.Shares(total, weights)
		for i := 1; i < len(weights) && e == api.OK; i++ {
			if weights[i] > weights[i-1] {
				want, e = nil, api.ErrOrder
			}
		}
		got, f := event.Purse(total, weights)
		is(t, fmt.Sprint("the error of ", total, " by ", weights), f, e)
		is(t, fmt.Sprint(total, " by ", weights), got, want)
	}
}

func TestP7_5Prizes(t *testing.T) {
	for _, c := range []struct {
		name  string
		l     []event.Line
		purse []int
		want  []int
	}{
		{"nobody", nil, []int{100}, nil},
		{"no purse", sampleField(), nil, []int{0, 0, 0, 0}},
		{"one amount for two", sampleField(), []int{1000}, []int{500, 500, 0, 0}},
		{"more amounts than lines", field("a 71", "b 70"), []int{5, 4, 3, 2}, []int{4, 5}},
		{"an amateur between", field("a 70", "b* 71", "c 72"), []int{5, 4, 3}, []int{5, 0, 4}},
		{"an amateur among the first", field("a 70", "b* 70", "c 70"), []int{5, 4, 3}, []int{5, 0, 4}},
		{"only amateurs", field("a* 70", "b* 71"), []int{5, 4}, []int{0, 0}},
		{"out and dis", field("a 60 out", "b 61 dis", "c 72", "d 71"), []int{5, 4, 3}, []int{0, 0, 4, 5}},
		{"whoever missed the cut", field("a 70 70", "b 60 cut", "c 71 75"), []int{5, 4, 3}, []int{5, 3, 4}},
		{"no scores", field("a", "b", "c"), []int{5, 3}, []int{3, 3, 2}},
		{"the rest in the order of the numbers", field("a 71", "b 70", "c 70", "d 70"), []int{5, 5, 1}, []int{0, 4, 4, 3}},
		{"a tie at the last amount", field("a 70", "b 71", "c 71", "d 71"), []int{9, 5}, []int{9, 2, 2, 1}},
		{"a tie behind the last amount", field("a 70", "b 71", "c 71"), []int{9}, []int{9, 0, 0}},
		{"the whole sum", field("a 70", "b 70"), []int{500000000, 499999999}, []int{500000000, 499999999}},
		{"the greatest amount", field("a 70", "b 71"), []int{999999999, 0}, []int{999999999, 0}},
	} {
		l, e := event.Prizes(c.l, c.purse)
		gives(t, c.name, l, e, c.want)
	}
	l, e := event.Prizes(field(names(200)...), append([]int{399, 1}, make([]int, 198)...))
	gives(t, "200 lines and 200 amounts", l, e, slices.Repeat([]int{2}, 200))
}

func TestP7_5PurseErrors(t *testing.T) {
	for _, c := range []struct {
		name  string
		purse []int
		want  api.Errno
	}{
		{"201 amounts", make([]int, 201), api.ErrMany},
		{"a negative amount", []int{5, -1}, api.ErrRange},
		{"a great amount", []int{1000000000}, api.ErrRange},
		{"a greater amount", []int{5, 6}, api.ErrOrder},
		{"a greater amount later", []int{5, 4, 5}, api.ErrOrder},
		{"a greater amount that is too great", []int{5, 1000000000}, api.ErrRange},
		{"a greater amount before a negative one", []int{5, 6, -1}, api.ErrOrder},
		{"a great sum", []int{999999999, 1}, api.ErrLarge},
		{"a greater amount after a great sum", []int{999999999, 1, 2}, api.ErrOrder},
		{"the greatest amounts", slices.Repeat([]int{999999999}, 200), api.ErrLarge},
		{"the greatest integers", slices.Repeat([]int{math.MaxInt}, 3), api.ErrRange},
		{"the least integers", slices.Repeat([]int{math.MinInt}, 2), api.ErrRange},
	} {
		l, e := event.Prizes(sampleField(), c.purse)
		fails(t, c.name, l, e, c.want)
		changed, e := event.Changed(nil, nil, c.purse)
		fails(t, "what changes with "+c.name, changed, e, c.want)
	}
	l, e := event.Prizes(field("a", "a"), []int{-1})
	fails(t, "the field before the purse", l, e, api.ErrTwice)
}

func TestP7_5PrizesByDefinition(t *testing.T) {
	random := rand.New(rand.NewSource(11))
	for range 2000 {
		l := randomField(random, random.Intn(12), 1+random.Intn(3))
		purse := randomPurse(random, random.Intn(14))
		got, e := event.Prizes(l, purse)
		gives(t, fmt.Sprint("the prizes ", purse, " of ", l), got, e, slowPrizes(l, purse))
	}
}
