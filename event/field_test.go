package event_test

import (
	"fmt"
	"math"
	"math/rand"
	"slices"
	"testing"

	"niblick/api"
	"niblick/event"
)

func TestP7_1Examples(t *testing.T) {
	l, e := event.Ballot(3, 1)
	gives(t, "a ballot", l, e, []int{2, 0, 1})
	got, e := accept(sample(), 2, "index", 1)
	gives(t, "by the index", got, e, two{[]int{1, 2}, []int{3, 0}})
	got, e = substitute(got.first, got.second, []int{2})
	gives(t, "C is gone", got, e, two{[]int{1, 3}, []int{0}})
	got, e = accept(sample(), 2, "ballot", 1)
	gives(t, "by the ballot", got, e, two{[]int{1, 3}, []int{0, 2}})
}

func TestP7_1Ballot(t *testing.T) {
	for _, c := range []struct {
		n, key int
		want   []int
	}{
		{0, 1, nil},
		{1, 2147483646, []int{0}},
		{2, 1, []int{0, 1}},
		{2, 2, []int{1, 0}},
		{10, 12345, []int{8, 7, 1, 2, 3, 6, 0, 9, 4, 5}},
		{8, 2147483646, []int{5, 4, 3, 2, 7, 6, 1, 0}},
		{5, 2147483645, []int{1, 4, 2, 3, 0}},
	} {
		l, e := event.Ballot(c.n, c.key)
		gives(t, fmt.Sprint("the ballot of ", c.n, " by ", c.key), l, e, c.want)
	}
	l, e := event.Ballot(200, 2147483646)
	gives(t, "the first ones of 200", ok(t, l, e)[:8], e, []int{124, 123, 162, 134, 84, 172, 41, 143})
	gives(t, "the last ones of 200", l[192:], e, []int{67, 142, 29, 182, 24, 121, 11, 176})
	for _, c := range [][2]int{{-1, 1}, {201, 1}, {math.MinInt, 1}, {math.MaxInt, 1}, {3, 0}, {3, -1}, {3, 2147483647}, {3, math.MaxInt}, {3, math.MinInt}, {-1, 0}} {
		l, e := event.Ballot(c[0], c[1])
		fails(t, fmt.Sprint("the ballot ", c), l, e, api.ErrRange)
	}
}

func TestP7_1BallotByDefinition(t *testing.T) {
	random := rand.New(rand.NewSource(1))
	for range 1000 {
		n, key := random.Intn(201), 1+random.Intn(2147483646)
		l, e := event.Ballot(n, key)
		gives(t, fmt.Sprint("the ballot of ", n, " by ", key), l, e, slowBallot(n, key))
		gives(t, "everyone once", slices.Sorted(slices.Values(l)), e, upTo(n))
	}
}

func TestP7_1Accept(t *testing.T) {
	exempt := func(l []event.Entry) []event.Entry {
		for i := range l {
			l[i].Exempt = true
		}
		return l
	}
	for _, c := range []struct {
		name   string
		l      []event.Entry
		places int
		rule   string
		want   two
	}{
		{"no entries", nil, 200, "ballot", two{}},
		{"no entries and no places", nil, 0, "index", two{}},
		{"no places", sample(), 0, "index", two{nil, []int{1, 2, 3, 0}}},
		{"all places", sample(), 4, "index", two{[]int{1, 2, 3, 0}, nil}},
		{"more places", sample(), 200, "ballot", two{[]int{1, 3, 0, 2}, nil}},
		{"all are exempt, in the order of the list", exempt(sample()), 3, "index", two{[]int{0, 1, 2}, []int{3}}},
		{"all are exempt, also by the ballot", exempt(sample()), 3, "ballot", two{[]int{0, 1, 2}, []int{3}}},
		{"more are exempt than there are places", exempt(sample()), 1, "ballot", two{[]int{0}, []int{1, 2, 3}}},
	} {
		got, e := accept(c.l, c.places, c.rule, 1)
		gives(t, c.name, got, e, c.want)
	}
	// Indices are numbers, not texts.
	l := sample()
	l[0].Index, l[2].Index, l[3].Index = "10", "19/2", "-1/2"
	got, e := accept(l, 2, "index", 1)
	gives(t, "by numbers", got, e, two{[]int{1, 3}, []int{2, 0}})
	for _, c := range []struct {
		name   string
		places int
		rule   string
		key    int
		want   api.Errno
	}{
		{"negative places", -1, "ballot", 1, api.ErrRange},
		{"201 places", 201, "ballot", 1, api.ErrRange},
		{"no rule", 2, "", 1, api.ErrKind},
		{"another rule", 2, "BALLOT", 1, api.ErrKind},
		{"the key 0", 2, "ballot", 0, api.ErrRange},
		{"a key by the index", 2, "index", 2147483647, api.ErrRange},
		{"places before the rule", 201, "", 0, api.ErrRange},
		{"the rule before the key", 2, "", 0, api.ErrKind},
	} {
		got, e := accept(sample(), c.places, c.rule, c.key)
		fails(t, c.name, got, e, c.want)
		got, e = accept(nil, c.places, c.rule, c.key)
		fails(t, c.name+" without entries", got, e, c.want)
	}
}

func TestP7_1AcceptByDefinition(t *testing.T) {
	random := rand.New(rand.NewSource(2))
	for range 500 {
		l := randomEntries(random, random.Intn(20))
		if random.Intn(50) == 0 {
			l = randomEntries(random, 200)
		}
		places, rule, key := random.Intn(22), pick(random, "ballot", "index"), 1+random.Intn(2147483646)
		order := slowOrder(l, rule, key)
		in := min(places, len(l))
		got, e := accept(l, places, rule, key)
		gives(t, "accepted by "+rule, got, e, two{order[:in], order[in:]})
	}
}

func TestP7_1Substitute(t *testing.T) {
	for _, c := range []struct {
		name               string
		in, reserves, gone []int
		want               two
	}{
		{"nothing", nil, nil, nil, two{}},
		{"nobody is gone", []int{4, 2}, []int{9, 1}, nil, two{[]int{4, 2}, []int{9, 1}}},
		{"the first one is gone", []int{4, 2}, []int{9, 1}, []int{4}, two{[]int{2, 9}, []int{1}}},
		{"a reserve is gone", []int{4, 2}, []int{9, 1}, []int{9}, two{[]int{4, 2}, []int{1}}},
		{"one and a reserve", []int{4, 2}, []int{9, 1}, []int{9, 4}, two{[]int{2, 1}, nil}},
		{"one and all reserves", []int{4, 2}, []int{9, 1}, []int{1, 9, 4}, two{[]int{2}, nil}},
		{"more than there are reserves", []int{4, 2, 7}, []int{9}, []int{4, 2}, two{[]int{7, 9}, nil}},
		{"all", []int{4, 2}, []int{9, 1}, []int{1, 2, 4, 9}, two{}},
		{"all who are in", []int{4, 2}, []int{9, 1, 5}, []int{2, 4}, two{[]int{9, 1}, []int{5}}},
		{"nobody is in", nil, []int{9, 1}, []int{1}, two{nil, []int{9}}},
		{"great numbers", []int{math.MaxInt, 0}, []int{1 << 40}, []int{0}, two{[]int{math.MaxInt, 1 << 40}, nil}},
		{"200 numbers", upTo(200), []int{200}, []int{0}, two{append(upTo(200)[1:], 200), nil}},
		{"200 reserves", nil, upTo(200), upTo(200), two{}},
	} {
		got, e := substitute(c.in, c.reserves, c.gone)
		gives(t, c.name, got, e, c.want)
	}
	for _, c := range []struct {
		name               string
		in, reserves, gone []int
		want               api.Errno
	}{
		{"201 in", upTo(201), nil, nil, api.ErrMany},
		{"201 reserves", nil, upTo(201), nil, api.ErrMany},
		{"201 gone", upTo(200), []int{200, 201}, upTo(201), api.ErrMany},
		{"-1 in", []int{-1}, nil, nil, api.ErrRange},
		{"-1 twice", []int{3, -1, -1}, nil, nil, api.ErrRange},
		{"twice in", []int{3, 4, 3}, nil, nil, api.ErrTwice},
		{"twice in the reserves", nil, []int{3, 4, 3}, nil, api.ErrTwice},
		{"in both", []int{3}, []int{4, 3}, nil, api.ErrTwice},
		{"a negative reserve", []int{3}, []int{math.MinInt}, nil, api.ErrRange},
		{"an unknown one", []int{3}, []int{4}, []int{5}, api.ErrUnknown},
		{"a negative one", []int{3}, []int{4}, []int{-1}, api.ErrUnknown},
		{"gone twice", []int{3}, []int{4}, []int{4, 3, 4}, api.ErrTwice},
		{"twice before unknown", []int{3}, []int{4}, []int{4, 4, 5}, api.ErrTwice},
		{"unknown before twice", []int{3}, []int{4}, []int{5, 5}, api.ErrUnknown},
		{"in before gone", []int{3, 3}, []int{4}, []int{5}, api.ErrTwice},
		{"in before reserves", []int{3, -3}, []int{3, 3}, nil, api.ErrRange},
	} {
		got, e := substitute(c.in, c.reserves, c.gone)
		fails(t, c.name, got, e, c.want)
	}
}

func TestP7_1SubstituteByDefinition(t *testing.T) {
	random := rand.New(rand.NewSource(3))
	for range 2000 {
		all := random.Perm(20)[:random.Intn(20)]
		in := random.Intn(len(all) + 1)
		gone := slices.Clone(all)
		random.Shuffle(len(gone), func(i, j int) { gone[i], gone[j] = gone[j], gone[i] })
		gone = gone[:random.Intn(len(gone)+1)]
		got, e := substitute(all[:in:in], all[in:], gone)
		gives(t, fmt.Sprint(all[:in], all[in:], gone), got, e, slowSubstitute(all[:in], all[in:], gone))
	}
}

func TestP7_1Strength(t *testing.T) {
	l, e := event.Strength(sample())
	gives(t, "the example", l, e, []int{2, 0, 3, 1})
	l, e = event.Strength(nil)
	gives(t, "no entries", l, e, nil)
	random := rand.New(rand.NewSource(4))
	for range 300 {
		entries := randomEntries(random, random.Intn(30))
		l, e := event.Strength(entries)
		gives(t, "at random", l, e, slowByIndex(entries, upTo(len(entries))))
	}
}

func TestP7_2Examples(t *testing.T) {
	got, e := qualify([]int{70, 72, 71, 72, 72}, 3)
	gives(t, "the example", got, e, qualified{[]int{0, 2}, []int{1, 3, 4}, 1})
}

func TestP7_2Qualify(t *testing.T) {
	for _, c := range []struct {
		name   string
		totals []int
		places int
		want   qualified
	}{
		{"nobody", nil, 3, qualified{}},
		{"nobody and no places", nil, 0, qualified{}},
		{"no places", []int{70, 71}, 0, qualified{}},
		{"no places and a tie", []int{70, 70}, 0, qualified{}},
		{"as many as places", []int{72, 70, 72}, 3, qualified{in: []int{0, 1, 2}}},
		{"as many as places, all of them tied", []int{72, 72, 72}, 3, qualified{in: []int{0, 1, 2}}},
		{"fewer than places", []int{72, 70, 72}, 200, qualified{in: []int{0, 1, 2}}},
		{"all are tied", []int{72, 72, 72}, 2, qualified{nil, []int{0, 1, 2}, 2}},
		{"a tie within the places", []int{71, 72, 71, 73}, 2, qualified{in: []int{0, 2}}},
		{"a tie behind the places", []int{72, 70, 72, 71}, 2, qualified{in: []int{1, 3}}},
		{"two ties", []int{71, 72, 71, 72, 72}, 4, qualified{[]int{0, 2}, []int{1, 3, 4}, 2}},
		{"negative totals", []int{-1, -3, 0, -1}, 2, qualified{[]int{1}, []int{0, 3}, 1}},
		{"the least and the greatest total", []int{999999999, -999999999, 999999999}, 2, qualified{[]int{1}, []int{0, 2}, 1}},
	} {
		got, e := qualify(c.totals, c.places)
		gives(t, c.name, got, e, c.want)
	}
	for _, c := range []struct {
		name   string
		totals []int
		places int
		want   api.Errno
	}{
		{"201 totals", make([]int, 201), 1, api.ErrMany},
		{"a total below the least one", []int{0, -1000000000}, 1, api.ErrRange},
		{"a total above the greatest one", []int{1000000000}, 1, api.ErrRange},
		{"the least integer", []int{math.MinInt}, 1, api.ErrRange},
		{"-1 places", []int{0}, -1, api.ErrRange},
		{"201 places", []int{0}, 201, api.ErrRange},
		{"201 totals before places", slices.Repeat([]int{math.MaxInt}, 201), -1, api.ErrMany},
	} {
		got, e := qualify(c.totals, c.places)
		fails(t, c.name, got, e, c.want)
	}
	got, e := qualify(make([]int, 200), 199)
	gives(t, "200 totals", got, e, qualified{nil, upTo(200), 199})
}

func TestP7_2QualifyByDefinition(t *testing.T) {
	random := rand.New(rand.NewSource(5))
	for range 3000 {
		var totals []int
		spread := pick(random, 1, 3, 10, 1000)
		for range random.Intn(12) {
			totals = append(totals, random.Intn(spread)-1)
		}
		places := random.Intn(13)
		got, e := qualify(totals, places)
		gives(t, fmt.Sprint(totals, " for ", places), got, e, slowQualify(totals, places))
	}
}
