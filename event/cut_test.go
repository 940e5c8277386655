package event_test

import (
	"fmt"
	"math"
	"math/rand"
	"testing"

	"niblick/api"
	"niblick/event"
)

func TestP7_4Examples(t *testing.T) {
	l, e := event.Leaderboard(sampleField())
	gives(t, "the places", l, e, []event.Place{{Line: 3, Rank: 1, Total: 140}, {Line: 0, Rank: 2, Total: 141}, {Line: 1, Rank: 2, Total: 141}, {Line: 2, Rank: 4, Total: 149}})
	got, e := cut(sampleField(), event.Rule{After: 2, Places: 2, Within: -1})
	gives(t, "two places", got, e, remaining{[]int{0, 1, 3}, 141})
	got, e = cut(sampleField(), event.Rule{After: 2, Places: 1, Within: -1})
	gives(t, "one place", got, e, remaining{[]int{3}, 140})
	got, e = cut(sampleField(), event.Rule{After: 2, Places: 1, Within: 1})
	gives(t, "one place, or within one stroke", got, e, remaining{[]int{0, 1, 3}, 141})
}

func TestP7_4Leaderboard(t *testing.T) {
	for _, c := range []struct {
		name string
		l    []event.Line
		want []event.Place
	}{
		{"nobody", nil, nil},
		{"no scores", field("a", "b*"), []event.Place{{0, 1, 0}, {1, 1, 0}}},
		{"more scores are better", field("a", "b 99 99", "c 60"), []event.Place{{1, 1, 198}, {2, 2, 60}, {0, 3, 0}}},
		{"out and dis are not ranked", field("a 70", "b 60 out", "c 61 dis", "d 71"), []event.Place{{0, 1, 70}, {3, 2, 71}}},
		{"nobody is ranked", field("a 70 out", "b 60 dis"), nil},
		{"cut is ranked", field("a 70 70", "b 60 cut", "c 71 71"), []event.Place{{0, 1, 140}, {2, 2, 142}, {1, 3, 60}}},
		{"cut with as many scores", field("a 70 70", "b 60 60 cut"), []event.Place{{1, 1, 120}, {0, 2, 140}}},
		{"amateurs are ranked", field("a 70", "b* 69"), []event.Place{{1, 1, 69}, {0, 2, 70}}},
		{"other scores, the same total", field("a 70 72", "b 71 71", "c 72 70"), []event.Place{{0, 1, 142}, {1, 1, 142}, {2, 1, 142}}},
		{"two ties", field("a 72", "b 70", "c 72", "d 70", "e 73"), []event.Place{{1, 1, 70}, {3, 1, 70}, {0, 3, 72}, {2, 3, 72}, {4, 5, 73}}},
		{"the most strokes", field("a 9999 9999 9999 9999 9999 9999 9999 9999"), []event.Place{{0, 1, 79992}}},
	} {
		l, e := event.Leaderboard(c.l)
		gives(t, c.name, l, e, c.want)
	}
}

func TestP7_4LeaderboardByDefinition(t *testing.T) {
	random := rand.New(rand.NewSource(8))
	for range 1000 {
		l := randomField(random, random.Intn(15), 1+random.Intn(4))
		got, e := event.Leaderboard(l)
		gives(t, fmt.Sprint("the places of ", l), got, e, slowPlaces(l))
	}
}

func TestP7_4Cut(t *testing.T) {
	for _, c := range []struct {
		name string
		l    []event.Line
		rule event.Rule
		want remaining
	}{
		{"the first scores alone", field("a 70 90", "b 71 60"), event.Rule{After: 1, Places: 1, Within: -1}, remaining{[]int{0}, 70}},
		{"only lines without a state", field("a 60 cut", "b 70", "c 61 out", "d 72", "e 62 dis"), event.Rule{After: 1, Places: 1, Within: -1}, remaining{[]int{1}, 70}},
		{"others may lack scores", field("a cut", "b 70", "c out", "d dis"), event.Rule{After: 1, Places: 1, Within: -1}, remaining{[]int{1}, 70}},
		{"fewer than places", field("a 70", "b 75"), event.Rule{After: 1, Places: 200, Within: -1}, remaining{[]int{0, 1}, 75}},
		{"as many as places", field("a 70", "b 75"), event.Rule{After: 1, Places: 2, Within: -1}, remaining{[]int{0, 1}, 75}},
		{"a tie at the last place", field("a 70", "b 72", "c 71", "d 72"), event.Rule{After: 1, Places: 3, Within: -1}, remaining{[]int{0, 1, 2, 3}, 72}},
		{"a tie behind it", field("a 70", "b 72", "c 71", "d 72"), event.Rule{After: 1, Places: 2, Within: -1}, remaining{[]int{0, 2}, 71}},
		{"within none", field("a 70", "b 72", "c 70"), event.Rule{After: 1, Places: 1, Within: 0}, remaining{[]int{0, 2}, 70}},
		{"within one, which nobody has", field("a 70", "b 72"), event.Rule{After: 1, Places: 1, Within: 1}, remaining{[]int{0}, 71}},
		{"within fewer than the places", field("a 70", "b 75", "c 76"), event.Rule{After: 1, Places: 2, Within: 4}, remaining{[]int{0, 1}, 75}},
		{"within as many as the places", field("a 70", "b 75", "c 76"), event.Rule{After: 1, Places: 2, Within: 5}, remaining{[]int{0, 1}, 75}},
		{"within more than the places", field("a 70", "b 75", "c 76"), event.Rule{After: 1, Places: 2, Within: 6}, remaining{[]int{0, 1, 2}, 76}},
		{"the most strokes within", field("a 70", "b 1069", "c 1070"), event.Rule{After: 1, Places: 1, Within: 999}, remaining{[]int{0, 1}, 1069}},
		{"above all totals", field("a 70", "b 75"), event.Rule{After: 1, Places: 200, Within: 999}, remaining{[]int{0, 1}, 1069}},
		{"eight rounds", field("a 1 1 1 1 1 1 1 2", "b 1 1 1 1 1 1 1 1"), event.Rule{After: 8, Places: 1, Within: -1}, remaining{[]int{1}, 8}},
		{"amateurs, too", field("a* 70", "b 75"), event.Rule{After: 1, Places: 1, Within: -1}, remaining{[]int{0}, 70}},
	} {
		got, e := cut(c.l, c.rule)
		gives(t, c.name, got, e, c.want)
		after, e := event.Miss(c.l, c.rule)
		gives(t, "the field after it: "+c.name, after, e, slowMiss(c.l, c.rule))
	}
}

func TestP7_4CutErrors(t *testing.T) {
	right := event.Rule{After: 2, Places: 1, Within: -1}
	for _, c := range []struct {
		name string
		l    []event.Line
		rule event.Rule
		want api.Errno
	}{
		{"after 0", sampleField(), event.Rule{After: 0, Places: 1}, api.ErrRange},
		{"after 9", sampleField(), event.Rule{After: 9, Places: 1}, api.ErrRange},
		{"after the least", sampleField(), event.Rule{After: math.MinInt, Places: 1}, api.ErrRange},
		{"no places", sampleField(), event.Rule{After: 2, Places: 0}, api.ErrRange},
		{"201 places", sampleField(), event.Rule{After: 2, Places: 201}, api.ErrRange},
		{"within -2", sampleField(), event.Rule{After: 2, Places: 1, Within: -2}, api.ErrRange},
		{"within 1000", sampleField(), event.Rule{After: 2, Places: 1, Within: 1000}, api.ErrRange},
		{"within the most", sampleField(), event.Rule{After: 2, Places: 1, Within: math.MaxInt}, api.ErrRange},
		{"no lines", nil, right, api.ErrEmpty},
		{"no lines and no rule", nil, event.Rule{}, api.ErrRange},
		{"no candidates", field("a 70 70 out", "b 70 70 cut", "c 70 70 dis"), right, api.ErrEmpty},
		{"no candidates, and no scores", field("a out"), right, api.ErrEmpty},
		{"a score too few", field("a 70 70", "b 70", "c 70 70"), right, api.ErrState},
		{"no scores", field("a"), event.Rule{After: 1, Places: 1}, api.ErrState},
		{"the field before the rule", field("a 70 70", "a 70 70"), event.Rule{}, api.ErrTwice},
	} {
		got, e := cut(c.l, c.rule)
		fails(t, c.name, got, e, c.want)
		after, e := event.Miss(c.l, c.rule)
		fails(t, "the field after it: "+c.name, after, e, c.want)
	}
	// With the limits of a rule there is no error.
	for _, rule := range []event.Rule{{1, 1, -1}, {1, 200, 999}, {2, 200, 0}} {
		_, e := cut(sampleField(), rule)
		is(t, fmt.Sprint(rule), e, api.OK)
	}
}

func TestP7_4Miss(t *testing.T) {
	after, e := event.Miss(sampleField(), event.Rule{After: 1, Places: 1, Within: -1})
	gives(t, "after a round", after, e, field("ann 70 71", "bob 72 cut", "cat 75 cut", "dan* 70 70"))
	after, e = event.Miss(field("a 70 70", "b* 75 60 60", "c 80 60 out", "d dis", "e 71 70 cut"), event.Rule{After: 1, Places: 1, Within: -1})
	gives(t, "with states", after, e, field("a 70 70", "b* 75 cut", "c 80 60 out", "d dis", "e 71 70 cut"))
	after, e = event.Miss(field("a 70 70", "b 75 60"), event.Rule{After: 1, Places: 1, Within: 5})
	gives(t, "nobody misses it", after, e, field("a 70 70", "b 75 60"))
}

func TestP7_4CutByDefinition(t *testing.T) {
	random := rand.New(rand.NewSource(9))
	tried := 0
	for range 5000 {
		rounds := 1 + random.Intn(4)
		l := randomField(random, 1+random.Intn(10), rounds)
		r := event.Rule{After: 1 + random.Intn(rounds), Places: 1 + random.Intn(11), Within: random.Intn(8) - 1}
		without, short := 0, 0
		for _, line := range l {
			if line.State == "" {
				without++
				if len(line.Scores) < r.After {
					short++
				}
			}
		}
		got, e := cut(l, r)
		after, f := event.Miss(l, r)
		switch {
		case without == 0:
			fails(t, "no candidates", got, e, api.ErrEmpty)
			fails(t, "no candidates", after, f, api.ErrEmpty)
		case short > 0:
			fails(t, "a score too few", got, e, api.ErrState)
			fails(t, "a score too few", after, f, api.ErrState)
		default:
			gives(t, fmt.Sprint("the cut ", r, " of ", l), got, e, slowCut(l, r))
			gives(t, fmt.Sprint("the field after ", r, " of ", l), after, f, slowMiss(l, r))
			tried++
		}
	}
	is(t, "often without an error", tried > 2000, true)
}
