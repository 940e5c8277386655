package sheet_test

import (
	"fmt"
	"math"
	"math/rand"
	"slices"
	"testing"

	"niblick/api"
	"niblick/sheet"
)

func TestP8_4Examples(t *testing.T) {
	a, e := sheet.Withdraw(sampleSlots(), sample(), []int{0, -1, 1}, 0)
	gives(t, "ann withdraws", a, e, []int{-1, 0, 1})
}

func TestP8_4Withdraw(t *testing.T) {
	l := slots("0 1 2", "0 2 1", "5 1 1")
	r := requests("ann 0:1 1:9", "ben! 0:1 2:5", "cat 0:1 1:1", "dan 0:10000 1:1", "eve 1:7", "fay")
	for _, c := range []struct {
		what string
		a    []int
		i    int
		want []int
	}{
		{"the first one who waits, not the best one", []int{0, 0, -1, -1, 1, -1}, 0, []int{-1, 0, 0, -1, 1, -1}},
		{"a guaranteed one", []int{0, 0, 1, -1, -1, -1}, 1, []int{0, -1, 1, 0, -1, -1}},
		{"nobody wishes for it", []int{0, 2, -1, -1, 1, -1}, 1, []int{0, -1, -1, -1, 1, -1}},
		{"one before the one that withdraws", []int{-1, 0, -1, 0, 1, -1}, 4, []int{1, 0, -1, 0, -1, -1}},
		{"not the one that withdraws", []int{0, 2, 0, 1, -1, -1}, 0, []int{-1, 2, 0, 1, -1, -1}},
		{"whoever is served stays", []int{1, 0, 0, -1, -1, -1}, 0, []int{-1, 0, 0, 1, -1, -1}},
		{"a place that is free beside it", []int{0, 2, -1, -1, -1, -1}, 0, []int{-1, 2, 0, -1, -1, -1}},
		{"not who does not wish for it", []int{-1, 2, 0, 0, 1, -1}, 4, []int{1, 2, 0, 0, -1, -1}},
		{"all others are served", []int{0, 2, 0, 1, -1, -1}, 3, []int{0, 2, 0, -1, 1, -1}},
	} {
		a, e := sheet.Withdraw(l, r, c.a, c.i)
		gives(t, c.what, a, e, c.want)
	}
	for _, c := range []struct {
		a    []int
		i    int
		want api.Errno
	}{
		{[]int{0, 0, -1, -1, 1, -1}, -1, api.ErrUnknown},
		{[]int{0, 0, -1, -1, 1, -1}, 6, api.ErrUnknown},
		{[]int{0, 0, -1, -1, 1, -1}, math.MinInt, api.ErrUnknown},
		{[]int{0, 0, -1, -1, 1, -1}, math.MaxInt, api.ErrUnknown},
		{[]int{0, 0, -1, -1, 1, -1}, 2, api.ErrState},
		{[]int{0, 0, -1, -1, 1, -1}, 5, api.ErrState},
		{[]int{0, 0, -1, -1, 1}, 9, api.ErrShape},
		{[]int{0, -1, -1, -1, 1, -1}, 1, api.ErrInfeasible},
		{[]int{0, 0, -1, -1, 1, 0}, 9, api.ErrUnknown},
		{[]int{0, 0, 0, -1, 1, -1}, 9, api.ErrConflict},
		{[]int{0, 0, 0, -1, 1, -1}, 3, api.ErrConflict},
	} {
		a, e := sheet.Withdraw(l, r, c.a, c.i)
		fails(t, fmt.Sprint(c.a, c.i), a, e, c.want)
	}
	a, e := sheet.Withdraw(nil, nil, nil, 0)
	fails(t, "nobody", a, e, api.ErrUnknown)
}

// randomAssignment returns an assignment of requests if they are served one after another, the guaranteed ones first, or false.
func randomAssignment(random *rand.Rand, l []sheet.Slot, r []sheet.Request) ([]int, bool) {
	a, free := slices.Repeat([]int{-1}, len(r)), slices.Clone(l)
	for _, sure := range []bool{true, false} {
		for _, i := range random.Perm(len(r)) {
			if r[i].Guaranteed != sure || !sure && random.Intn(3) == 0 {
				continue
			}
			for _, at := range random.Perm(len(r[i].Wishes)) {
				if slot := r[i].Wishes[at].Slot; a[i] == -1 && free[slot].Places > 0 {
					a[i] = slot
					free[slot].Places--
				}
			}
			if sure && a[i] == -1 {
				return nil, false
			}
		}
	}
	return a, true
}

func TestP8_4WithdrawByDefinition(t *testing.T) {
	random := rand.New(rand.NewSource(7))
	filled := 0
	for n := range 6000 {
		l, r := randomSheet(random)
		if n%20 == 0 {
			l, r = largeSheet(random)
		}
		a, feasible := randomAssignment(random, l, r)
		if !feasible {
			continue
		}
		_, e := sheet.CheckAssignment(l, r, a)
		is(t, "an assignment", e, api.OK)
		for i := range r {
			after, e := sheet.Withdraw(l, r, a, i)
			if a[i] == -1 {
				fails(t, "who is not served", after, e, api.ErrState)
				continue
			}
			gives(t, fmt.Sprint(l, r, a, i), after, e, slowWithdraw(r, a, i))
			if slices.Contains(after, a[i]) {
				filled++
			}
		}
	}
	is(t, "often filled again", filled > 500, true)
}
