package sheet_test

import (
	"fmt"
	"math"
	"math/rand"
	"slices"
	"testing"

	"niblick/api"
	"niblick/sheet"
)

// free returns requests none of which is guaranteed.
func free(r []sheet.Request) []sheet.Request {
	l := slices.Clone(r)
	for i := range l {
		l[i].Guaranteed = false
	}
	return l
}

func TestP8_2Examples(t *testing.T) {
	l, r := sampleSlots(), sample()
	n, e := sheet.Best(l, r)
	gives(t, "Best", n, e, 6)
	a, e := sheet.First(l, r)
	gives(t, "First", a, e, []int{0, -1, 1})
	a, e = sheet.Assign(l, r)
	gives(t, "Assign", a, e, []int{0, -1, 1})
	n, e = sheet.Best(l, free(r))
	gives(t, "Best without a guarantee", n, e, 7)
	a, e = sheet.First(l, free(r))
	gives(t, "First without a guarantee", a, e, []int{1, 0, -1})
	n, e = sheet.Most(l, r)
	gives(t, "Most", n, e, 2)
	n, e = sheet.CheckAssignment(l, r, []int{0, -1, 1})
	gives(t, "CheckAssignment", n, e, 6)
}

func TestP8_2CheckAssignment(t *testing.T) {
	l := slots("0 1 2", "0 2 1", "5 1 8")
	r := requests("ann 0:5 1:3", "ben! 0:4 2:10000", "cat 0:1", "dan", "eve 1:7")
	for _, c := range []struct {
		a    []int
		want int
		e    api.Errno
	}{
		{[]int{0, 0, -1, -1, 1}, 16, api.OK},
		{[]int{-1, 2, -1, -1, -1}, 10000, api.OK},
		{[]int{1, 2, 0, -1, -1}, 10004, api.OK},
		{[]int{0, 2, 0, -1, 1}, 10013, api.OK},
		{nil, 0, api.ErrShape},
		{[]int{0, 2, 0, -1}, 0, api.ErrShape},
		{[]int{9, 9, 9, 9, 9, 9}, 0, api.ErrShape},
		{[]int{2, 2, -1, -1, -1}, 0, api.ErrUnknown},
		{[]int{3, 2, -1, -1, -1}, 0, api.ErrUnknown},
		{[]int{-2, 2, -1, -1, -1}, 0, api.ErrUnknown},
		{[]int{math.MinInt, 2, -1, -1, -1}, 0, api.ErrUnknown},
		{[]int{math.MaxInt, -1, -1, -1, -1}, 0, api.ErrUnknown},
		{[]int{0, 0, 0, 0, -1}, 0, api.ErrUnknown},
		{[]int{0, -1, 1, -1, -1}, 0, api.ErrInfeasible},
		{[]int{1, 1, -1, -1, 1}, 0, api.ErrUnknown},
		{[]int{1, 0, -1, -1, 1}, 0, api.ErrConflict},
		{[]int{0, 0, 0, -1, -1}, 0, api.ErrConflict},
		{[]int{0, 0, 0, -1, 0}, 0, api.ErrUnknown},
		{[]int{1, -1, -1, -1, 1}, 0, api.ErrInfeasible},
	} {
		n, e := sheet.CheckAssignment(l, r, c.a)
		if c.e == api.OK {
			gives(t, fmt.Sprint(c.a), n, e, c.want)
		} else {
			fails(t, fmt.Sprint(c.a), n, e, c.e)
		}
	}
	n, e := sheet.CheckAssignment(nil, nil, nil)
	gives(t, "nothing", n, e, 0)
	n, e = sheet.CheckAssignment(nil, nil, []int{-1})
	fails(t, "nobody has a number", n, e, api.ErrShape)
}

func TestP8_2CheckAssignmentByDefinition(t *testing.T) {
	random := rand.New(rand.NewSource(1))
	right := map[api.Errno]int{}
	for range 5000 {
		l, r := randomSheet(random)
		var a []int
		for range r {
			a = append(a, random.Intn(len(l)+1)-1)
		}
		want := api.OK
		for i, q := range r {
			_, wished := wishOf(q, a[i])
			if a[i] != -1 && !wished {
				want = api.ErrUnknown
				break
			}
			if a[i] == -1 && q.Guaranteed {
				want = api.ErrInfeasible
				break
			}
		}
		for slot, s := range l {
			if taken := len(slices.DeleteFunc(slices.Clone(a), func(own int) bool { return own != slot })); want == api.OK && taken > s.Places {
				want = api.ErrConflict
			}
		}
		right[want]++
		n, e := sheet.CheckAssignment(l, r, a)
		if want != api.OK {
			fails(t, fmt.Sprint(l, r, a), n, e, want)
			continue
		}
		value, _, _ := slowValue(r, a)
		gives(t, fmt.Sprint(l, r, a), n, e, value)
	}
	is(t, "often each error", right[api.OK] > 300 && right[api.ErrUnknown] > 300 && right[api.ErrInfeasible] > 300 && right[api.ErrConflict] > 100, true)
}

func TestP8_2Best(t *testing.T) {
	for _, c := range []struct {
		what  string
		l     []sheet.Slot
		r     []sheet.Request
		best  int
		first []int
		most  int
	}{
		{"nothing", nil, nil, 0, nil, 0},
		{"nobody", sampleSlots(), nil, 0, nil, 0},
		{"no slots", nil, requests("ann", "ben"), 0, []int{-1, -1}, 0},
		{"no wishes", sampleSlots(), requests("ann", "ben 0:1"), 1, []int{-1, 0}, 1},
		{"room for all", slots("0 1 3"), requests("ann 0:1", "ben! 0:2", "cat 0:10000"), 10003, []int{0, 0, 0}, 3},
		{"the greatest one alone", slots("0 1 1"), requests("ann 0:9999", "ben 0:10000"), 10000, []int{-1, 0}, 1},
		{"equal ones: the first one is served", slots("0 1 1"), requests("ann 0:5", "ben 0:5"), 5, []int{0, -1}, 1},
		{"equal slots: the first one is the first's", slots("0 1 1", "0 2 1"), requests("ann 0:5 1:5", "ben 0:5 1:5"), 10, []int{0, 1}, 2},
		{"a later slot before none", slots("0 1 1", "0 2 1"), requests("ann 0:5 1:5", "ben 0:5"), 10, []int{1, 0}, 2},
		{"a guarantee costs", slots("0 1 1"), requests("ann 0:10000", "ben! 0:1"), 1, []int{-1, 0}, 1},
		{"a guarantee that comes first costs, too", slots("0 1 1"), requests("ann! 0:1", "ben 0:10000"), 1, []int{0, -1}, 1},
		{"fewer are worth more", slots("0 1 1", "5 1 1"), requests("ann 0:9 1:1", "ben 0:1", "cat! 1:1"), 10, []int{0, -1, 1}, 2},
		{"two are served for one", slots("0 1 1", "5 1 1"), requests("ann 0:9 1:2", "ben 0:8"), 10, []int{1, 0}, 2},
		{"a chain of moves", slots("0 1 1", "1 1 1", "2 1 1", "3 1 1"), requests("a 0:9 1:8", "b 1:9 2:8", "c 2:9 3:8", "d 0:9"), 33, []int{1, 2, 3, 0}, 4},
		{"a chain of moves that gains nothing", slots("0 1 1", "1 1 1"), requests("a 0:9 1:5", "b 1:9", "c 0:4"), 18, []int{0, 1, -1}, 2},
		{"a chain behind a guarantee", slots("0 1 1", "1 1 1"), requests("a! 0:9 1:5", "b 1:9", "c! 0:4"), 9, []int{1, -1, 0}, 2},
		{"one slot has several places", slots("0 1 2", "1 1 1"), requests("a 0:3 1:2", "b 0:3 1:2", "c 0:3", "d! 0:1"), 6, []int{0, 1, -1, 0}, 3},
	} {
		n, e := sheet.Best(c.l, c.r)
		gives(t, "Best: "+c.what, n, e, c.best)
		a, e := sheet.First(c.l, c.r)
		gives(t, "First: "+c.what, a, e, c.first)
		a, e = sheet.Assign(c.l, c.r)
		n, e = sheet.CheckAssignment(c.l, c.r, ok(t, a, e))
		gives(t, "Assign: "+c.what, n, e, c.best)
		n, e = sheet.Most(c.l, c.r)
		gives(t, "Most: "+c.what, n, e, c.most)
	}
}

func TestP8_2Infeasible(t *testing.T) {
	for _, c := range []struct {
		what string
		l    []sheet.Slot
		r    []sheet.Request
		most int
	}{
		{"no slots", nil, requests("ann!"), 0},
		{"no wish", sampleSlots(), requests("ann 0:1", "ben!"), 1},
		{"two for one place", sampleSlots(), requests("ann! 1:3", "ben 0:4", "cat! 1:1"), 2},
		{"three for two slots", sampleSlots(), requests("ann! 0:1 1:3", "ben! 0:4 1:1", "cat! 0:1 1:1"), 2},
		{"great weights do not help", slots("0 1 1", "1 1 1"), requests("ann! 0:10000", "ben! 0:10000", "cat 1:1"), 2},
	} {
		n, e := sheet.Best(c.l, c.r)
		fails(t, "Best: "+c.what, n, e, api.ErrInfeasible)
		a, e := sheet.First(c.l, c.r)
		fails(t, "First: "+c.what, a, e, api.ErrInfeasible)
		a, e = sheet.Assign(c.l, c.r)
		fails(t, "Assign: "+c.what, a, e, api.ErrInfeasible)
		p, e := sheet.Proof(c.l, c.r)
		fails(t, "Proof: "+c.what, p, e, api.ErrInfeasible)
		n, e = sheet.Most(c.l, c.r)
		gives(t, "Most: "+c.what, n, e, c.most)
	}
}

// A request that comes last makes all others move from the weight 10000 to 1, as they are guaranteed.
func TestP8_2GuaranteesAtAnyCost(t *testing.T) {
	for n := 2; n <= 24; n++ {
		var l []sheet.Slot
		var r []sheet.Request
		want := []int{}
		for i := range n {
			l = append(l, sheet.Slot{Minute: i, Hole: 1, Places: 1})
			r = append(r, requests(fmt.Sprint("n", i, "! ", i, ":10000 ", i+1, ":1"))[0])
			want = append(want, i+1)
		}
		r[n-1] = requests("last! 0:1")[0]
		want[n-1] = 0
		best, e := sheet.Best(l, r)
		gives(t, fmt.Sprint("Best of ", n), best, e, n)
		a, e := sheet.First(l, r)
		gives(t, fmt.Sprint("First of ", n), a, e, want)
		p, e := sheet.Proof(l, r)
		is(t, fmt.Sprint("Proof of ", n), slowProves(l, r, n, ok(t, p, e)), true)
		r[n-1].Guaranteed = false
		best, e = sheet.Best(l, r)
		gives(t, "Best without the last guarantee", best, e, 10000*(n-1))
	}
}

func TestP8_2ByDefinition(t *testing.T) {
	random := rand.New(rand.NewSource(2))
	infeasible, unlike := 0, 0
	for range 4000 {
		l, r := randomSheet(random)
		want, what := slowSolve(l, r), fmt.Sprint(l, r)
		most, e := sheet.Most(l, r)
		gives(t, "Most of "+what, most, e, want.most)
		best, e := sheet.Best(l, r)
		first, e2 := sheet.First(l, r)
		own, e3 := sheet.Assign(l, r)
		if !want.feasible {
			fails(t, "Best of "+what, best, e, api.ErrInfeasible)
			fails(t, "First of "+what, first, e2, api.ErrInfeasible)
			fails(t, "Assign of "+what, own, e3, api.ErrInfeasible)
			infeasible++
			continue
		}
		gives(t, "Best of "+what, best, e, want.best)
		gives(t, "First of "+what, first, e2, want.first)
		value, e := sheet.CheckAssignment(l, r, ok(t, own, e3))
		gives(t, "Assign of "+what, value, e, want.best)
		if !slices.Equal(own, first) {
			unlike++
		}
	}
	is(t, "often infeasible", infeasible > 400 && infeasible < 2000, true)
	is(t, "sometimes not the first one", unlike > 100, true)
}

// Of large sheets the value is that which prices prove, and First is as good as Assign, but does not come after it.
func TestP8_2LargeSheets(t *testing.T) {
	random := rand.New(rand.NewSource(3))
	last := func(slot int) int {
		if slot == -1 {
			return 24
		}
		return slot
	}
	feasible := 0
	for range 60 {
		l, r := largeSheet(random)
		first, e := sheet.First(l, r)
		if e != api.OK {
			fails(t, "First", first, e, api.ErrInfeasible)
			continue
		}
		feasible++
		best, e := sheet.Best(l, r)
		own, e2 := sheet.Assign(l, r)
		for _, a := range [][]int{first, ok(t, own, e2)} {
			value, e3 := sheet.CheckAssignment(l, r, a)
			gives(t, "the value", value, e3, ok(t, best, e))
		}
		is(t, "the first one", slices.CompareFunc(first, own, func(a, b int) int { return last(a) - last(b) }) <= 0, true)
		p, e := sheet.Proof(l, r)
		is(t, "a proof", slowProves(l, r, best, ok(t, p, e)), true)
	}
	is(t, "often feasible", feasible > 20, true)
}
