package sheet_test

import (
	"fmt"
	"math"
	"math/rand"
	"slices"
	"testing"

	"niblick/api"
	"niblick/sheet"
)

func TestP8_3Examples(t *testing.T) {
	l, r := sampleSlots(), sample()
	is(t, "the prices", sheet.CheckProof(l, r, 6, sheet.Prices{Requests: []int{1, 0, -1}, Slots: []int{4, 2}}), api.OK)
	p, e := sheet.Proof(l, r)
	is(t, "Proof", sheet.CheckProof(l, r, 6, ok(t, p, e)), api.OK)
	r[0] = requests("ann! 1:3")[0]
	set, e := sheet.Excluded(l, r)
	gives(t, "Excluded", set, e, []int{0, 2})
}

func TestP8_3Proof(t *testing.T) {
	for _, c := range []struct {
		what  string
		l     []sheet.Slot
		r     []sheet.Request
		value int
	}{
		{"nothing", nil, nil, 0},
		{"nobody", slots("0 1 8"), nil, 0},
		{"no wishes", nil, requests("ann"), 0},
		{"a free place", slots("0 1 2"), requests("ann! 0:7"), 7},
		{"a place for two", slots("0 1 1"), requests("ann 0:7", "ben 0:9"), 9},
		{"a guarantee that costs", slots("0 1 1"), requests("ann! 0:1", "ben 0:10000"), 1},
		{"two guarantees that cost", slots("0 1 2"), requests("ann! 0:1", "ben 0:10000", "cat! 0:2", "dan 0:9999"), 3},
	} {
		p, e := sheet.Proof(c.l, c.r)
		is(t, c.what, slowProves(c.l, c.r, c.value, ok(t, p, e)), true)
		is(t, c.what+", checked", sheet.CheckProof(c.l, c.r, c.value, p), api.OK)
	}
}

func TestP8_3ProofByDefinition(t *testing.T) {
	random := rand.New(rand.NewSource(4))
	negative := 0
	for range 6000 {
		l, r := randomSheet(random)
		want := slowSolve(l, r)
		p, e := sheet.Proof(l, r)
		if !want.feasible {
			fails(t, fmt.Sprint(l, r), p, e, api.ErrInfeasible)
			continue
		}
		ok(t, p, e)
		is(t, fmt.Sprint(l, r, p), slowProves(l, r, want.best, p), true)
		if len(p.Requests) > 0 && slices.Min(p.Requests) < 0 {
			negative++
		}
	}
	is(t, "often a price below 0", negative > 80, true)
}

func TestP8_3CheckProof(t *testing.T) {
	l, r := slots("0 1 2", "5 1 1"), requests("ann 0:5 1:3", "ben 0:4", "cat! 1:1")
	for _, c := range []struct {
		what            string
		value           int
		requests, slots []int
		want            api.Errno
	}{
		{"the best", 10, []int{5, 4, 1}, []int{0, 0}, api.OK},
		{"other prices", 15, []int{0, 0, 0}, []int{5, 5}, api.OK},
		{"a price below 0 of a guaranteed request", 10, []int{5, 4, -2}, []int{0, 3}, api.OK},
		{"great prices of requests", 999999999, []int{999999994, 4, 1}, []int{0, 0}, api.OK},
		{"a great price of a slot", 10, []int{5, 4, -999999998}, []int{0, 999999999}, api.OK},
		{"a great sum", 999999999, []int{999999999, 999999999, -999999999}, []int{999999999, 999999999}, api.ErrProof},
		{"a free slot is paid", 12, []int{5, 4, -7}, []int{1, 8}, api.OK},
		{"a slot below 0", 10, []int{6, 5, 1}, []int{-1, 0}, api.ErrProof},
		{"a request below 0", 8, []int{0, -1, 0}, []int{5, 3}, api.ErrProof},
		{"a wish that is not covered", 9, []int{4, 4, 1}, []int{0, 0}, api.ErrProof},
		{"the wish of a guaranteed request that is not covered", 9, []int{5, 4, 0}, []int{0, 0}, api.ErrProof},
		{"a smaller value", 9, []int{5, 4, 1}, []int{0, 0}, api.ErrProof},
		{"a greater value", 11, []int{5, 4, 1}, []int{0, 0}, api.ErrProof},
		{"the value -1000000000", -1000000000, []int{5, 4, 1}, []int{0, 0}, api.ErrRange},
		{"the value 1000000000", 1000000000, nil, nil, api.ErrRange},
		{"the value 999999999", 999999999, []int{5, 4, 1}, []int{0, 0}, api.ErrProof},
		{"the value -999999999", -999999999, []int{5, 4, 1}, []int{0, 0}, api.ErrProof},
		{"a price too few", 10, []int{5, 4}, []int{0, 0}, api.ErrShape},
		{"a price too many", 10, []int{5, 4, 1, 0}, []int{0, 0}, api.ErrShape},
		{"a slot too few", 10, []int{5, 4, 1}, []int{0}, api.ErrShape},
		{"a slot too many", 10, []int{5, 4, 1}, []int{0, 0, 0}, api.ErrShape},
		{"a shape of slots before a range of requests", 10, []int{5, 4, 1000000000}, []int{0}, api.ErrShape},
		{"a range before no proof", 10, []int{-1, 4, 1}, []int{0, 1000000000}, api.ErrRange},
		{"extremes", 10, []int{math.MinInt, math.MaxInt, 0}, []int{math.MaxInt, math.MinInt}, api.ErrRange},
	} {
		is(t, c.what, sheet.CheckProof(l, r, c.value, sheet.Prices{Requests: c.requests, Slots: c.slots}), c.want)
	}
	is(t, "nothing", sheet.CheckProof(nil, nil, 0, sheet.Prices{}), api.OK)
	is(t, "nothing is worth 1", sheet.CheckProof(nil, nil, 1, sheet.Prices{}), api.ErrProof)
	// What cannot be served at all can be proved to be worth any value.
	both := requests("ann! 0:1", "ben! 0:1")
	is(t, "an infeasible sheet", sheet.CheckProof(slots("0 1 1"), both, -999, sheet.Prices{Requests: []int{-1000, -1000}, Slots: []int{1001}}), api.OK)
	none := sheet.Prices{Requests: []int{-999999999}}
	is(t, "a request without wishes", sheet.CheckProof(nil, requests("ann!"), -999999999, none), api.OK)
	is(t, "one that is not guaranteed", sheet.CheckProof(nil, requests("ann"), -999999999, none), api.ErrProof)
}

func TestP8_3CheckProofByDefinition(t *testing.T) {
	random := rand.New(rand.NewSource(5))
	right := map[bool]int{}
	for range 6000 {
		l, r := randomSheet(random)
		p, e := sheet.Proof(l, r)
		if e != api.OK {
			continue
		}
		value := sum(p.Requests)
		for i := range random.Intn(3) {
			if change := random.Intn(5) - 2; i == 0 && len(r) > 0 {
				p.Requests[random.Intn(len(r))] += change
				value += change
			} else if len(l) > 0 {
				p.Slots[random.Intn(len(l))] += change
			}
		}
		for j, s := range l {
			value += s.Places * p.Slots[j]
		}
		value += pick(random, 0, 0, 0, 0, 1, -1)
		proves := slowProves(l, r, value, p)
		right[proves]++
		want := api.ErrProof
		if proves {
			want = api.OK
		}
		is(t, fmt.Sprint(l, r, value, p), sheet.CheckProof(l, r, value, p), want)
	}
	is(t, "often right, often wrong", right[true] > 1000 && right[false] > 1000, true)
}

func TestP8_3Excluded(t *testing.T) {
	l := slots("0 1 1", "1 1 2", "2 1 1", "3 1 8")
	for _, c := range []struct {
		what string
		r    []sheet.Request
		want []int
	}{
		{"a request without wishes", requests("ann 0:1", "ben!"), []int{1}},
		{"the first one without wishes", requests("ann! 0:1", "ben! 0:1", "cat!", "dan!"), []int{2}},
		{"two for one place", requests("ann! 1:1", "ben! 0:1", "cat 0:1", "dan! 0:1"), []int{1, 3}},
		{"the first two", requests("a! 2:1", "b! 0:1", "c! 0:1", "d! 2:1"), []int{0, 3}},
		{"the first two of three", requests("a! 0:1", "b! 0:1", "c! 0:1"), []int{0, 1}},
		{"three for two places", requests("a! 1:1", "b! 1:1", "c 1:1", "d! 1:1"), []int{0, 1, 3}},
		{"three for two slots", requests("a! 0:1 2:1", "b! 0:1", "c! 2:1"), []int{0, 1, 2}},
		{"a smaller set behind", requests("a! 1:1", "b! 1:1", "c! 1:1", "d! 2:1", "e! 2:1"), []int{3, 4}},
		{"four for three places", requests("a! 0:1 1:1", "b! 0:1 1:1", "c! 0:1 1:1", "d! 0:1 1:1", "e! 3:1"), []int{0, 1, 2, 3}},
	} {
		set, e := sheet.Excluded(l, c.r)
		gives(t, c.what, set, e, c.want)
	}
	for _, r := range [][]sheet.Request{
		nil,
		requests("ann", "ben", "cat 0:1", "dan 0:1"),
		requests("a! 0:1 1:1", "b! 0:1 1:1", "c! 0:1 1:1", "d 0:1"),
		requests("a! 3:1", "b! 3:1", "c! 3:1", "d! 3:1", "e! 3:1", "f! 3:1", "g! 3:1", "h! 3:1"),
	} {
		set, e := sheet.Excluded(l, r)
		fails(t, fmt.Sprint(r), set, e, api.ErrNone)
	}
}

func TestP8_3ExcludedLimit(t *testing.T) {
	l := slots("0 1 8", "1 1 3")
	var r []sheet.Request
	for i := range 24 {
		r = append(r, requests(fmt.Sprint("n", i, " 0:1 1:1"))[0])
		r[i].Guaranteed = i%2 == 1
	}
	set, e := sheet.Excluded(l, r)
	gives(t, "12 of 24", set, e, []int{1, 3, 5, 7, 9, 11, 13, 15, 17, 19, 21, 23})
	l[1].Places++
	set, e = sheet.Excluded(l, r)
	fails(t, "a place more", set, e, api.ErrNone)
	r[0].Guaranteed = true
	set, e = sheet.Excluded(l, r)
	fails(t, "13 of 24", set, e, api.ErrLimit)
	r[0].Wishes = nil
	set, e = sheet.Excluded(l, r)
	fails(t, "13 of 24, and one without wishes", set, e, api.ErrLimit)
}

func TestP8_3ExcludedByDefinition(t *testing.T) {
	random := rand.New(rand.NewSource(6))
	found := map[int]int{}
	for range 4000 {
		n := 2 + random.Intn(4)
		l, r := randomSlots(random, n), randomRequests(random, random.Intn(10), n, pick(random, 60, 100), pick(random, 50, 80, 100))
		want := slowExcluded(l, r)
		set, e := sheet.Excluded(l, r)
		found[len(want)]++
		if want == nil {
			fails(t, fmt.Sprint(l, r), set, e, api.ErrNone)
		} else {
			gives(t, fmt.Sprint(l, r), set, e, want)
		}
	}
	is(t, "often of different sizes", found[0] > 500 && found[1] > 300 && found[2] > 50 && found[3] > 50 && found[4] > 50, true)
}
