package event_test

import (
	"fmt"
	"math"
	"math/rand"
	"slices"
	"testing"

	"niblick/api"
	"niblick/event"
)

func TestP7_3Examples(t *testing.T) {
	l, e := event.Bracket(3)
	gives(t, "three seeds", l, e, []int{1, 0, 2, 3})
	l, e = event.Bracket(8)
	gives(t, "eight seeds", l, e, []int{1, 8, 4, 5, 2, 7, 3, 6})
	round, e := event.Meet(8, 1, 4)
	gives(t, "1 and 4", round, e, 2)
	slots, e := event.Draw([]string{"ann", "bob", "cat"})
	gives(t, "a draw", slots, e, []string{"ann", "", "bob", "cat"})
	slots, e = event.Advance(slots, []string{"cat"})
	gives(t, "the next round", slots, e, []string{"ann", "bob"})
}

func TestP7_3Bracket(t *testing.T) {
	for _, c := range []struct {
		n    int
		want []int
	}{
		{1, []int{1}},
		{2, []int{1, 2}},
		{4, []int{1, 4, 2, 3}},
		{5, []int{1, 0, 4, 5, 2, 0, 3, 0}},
		{6, []int{1, 0, 4, 5, 2, 0, 3, 6}},
		{16, []int{1, 16, 8, 9, 4, 13, 5, 12, 2, 15, 7, 10, 3, 14, 6, 11}},
	} {
		l, e := event.Bracket(c.n)
		gives(t, fmt.Sprint("the bracket of ", c.n), l, e, c.want)
	}
	for n := 1; n <= 200; n++ {
		l, e := event.Bracket(n)
		gives(t, fmt.Sprint("the bracket of ", n), l, e, slowBracket(n))
		seeds := slices.DeleteFunc(slices.Sorted(slices.Values(l)), func(s int) bool { return s == 0 })
		gives(t, "each seed once", seeds, e, upTo(n + 1)[1:])
	}
	for _, n := range []int{0, -1, 201, math.MinInt, math.MaxInt} {
		l, e := event.Bracket(n)
		fails(t, fmt.Sprint("the bracket of ", n), l, e, api.ErrRange)
	}
}

func TestP7_3Meet(t *testing.T) {
	for _, c := range []struct{ n, a, b, want int }{
		{2, 1, 2, 1}, {2, 2, 1, 1}, {3, 1, 2, 2}, {3, 2, 3, 1}, {3, 1, 3, 2}, {8, 1, 8, 1}, {8, 8, 4, 2}, {8, 3, 6, 1}, {8, 6, 7, 2}, {8, 5, 6, 3},
		{128, 1, 2, 7}, {129, 1, 2, 8}, {129, 128, 129, 1}, {200, 1, 200, 6}, {200, 2, 200, 8}, {200, 57, 200, 1},
	} {
		round, e := event.Meet(c.n, c.a, c.b)
		gives(t, fmt.Sprint(c.a, " and ", c.b, " of ", c.n), round, e, c.want)
	}
	for _, c := range []struct {
		n, a, b int
		want    api.Errno
	}{
		{0, 1, 2, api.ErrRange}, {-8, 1, 2, api.ErrRange}, {201, 1, 2, api.ErrRange}, {math.MaxInt, 1, 2, api.ErrRange},
		{201, 0, 0, api.ErrRange}, {3, 0, 1, api.ErrUnknown}, {3, 1, 0, api.ErrUnknown}, {3, 4, 1, api.ErrUnknown}, {3, 1, 4, api.ErrUnknown},
		{3, 4, 4, api.ErrUnknown}, {3, 0, 0, api.ErrUnknown}, {3, math.MinInt, 1, api.ErrUnknown}, {3, 1, math.MaxInt, api.ErrUnknown},
		{3, 3, 3, api.ErrTwice}, {1, 1, 1, api.ErrTwice}, {1, 1, 2, api.ErrUnknown},
	} {
		round, e := event.Meet(c.n, c.a, c.b)
		fails(t, fmt.Sprint(c.a, " and ", c.b, " of ", c.n), round, e, c.want)
	}
}

// metIn returns the round of a draw in which two players stand side by side, if both win until then.
func metIn(t *testing.T, players []string, a, b string) int {
	t.Helper()
	slots, e := event.Draw(players)
	for round := 1; ; round++ {
		ok(t, slots, e)
		var losers []string
		for i := 0; i < len(slots); i += 2 {
			first, second := slots[i], slots[i+1]
			switch {
			case first == a && second == b, first == b && second == a:
				return round
			case first == "", second == "":
			case second == a, second == b:
				losers = append(losers, first)
			default:
				losers = append(losers, second)
			}
		}
		slots, e = event.Advance(slots, losers)
	}
}

func TestP7_3MeetInDraws(t *testing.T) {
	for n := 2; n <= 20; n++ {
		for a := 1; a <= n; a++ {
			for b := 1; b <= n; b++ {
				if a == b {
					continue
				}
				players := names(n)
				round, e := event.Meet(n, a, b)
				gives(t, fmt.Sprint(a, " and ", b, " of ", n), round, e, metIn(t, players, players[a-1], players[b-1]))
			}
		}
	}
	random := rand.New(rand.NewSource(6))
	for range 200 {
		n := 2 + random.Intn(199)
		seeds := random.Perm(n)[:2]
		round, e := event.Meet(n, seeds[0]+1, seeds[1]+1)
		gives(t, fmt.Sprint(seeds, " of ", n), round, e, metIn(t, names(n), names(n)[seeds[0]], names(n)[seeds[1]]))
	}
}

func TestP7_3Draw(t *testing.T) {
	for _, c := range []struct{ players, want []string }{
		{[]string{"ann"}, []string{"ann"}},
		{[]string{"bob", "ann"}, []string{"bob", "ann"}},
		{[]string{"a", "b", "c", "d", "e"}, []string{"a", "", "d", "e", "b", "", "c", ""}},
	} {
		slots, e := event.Draw(c.players)
		gives(t, fmt.Sprint("the draw of ", c.players), slots, e, c.want)
	}
	slots, e := event.Draw(names(200))
	for i, seed := range slowBracket(200) {
		want := ""
		if seed > 0 {
			want = names(200)[seed-1]
		}
		gives(t, fmt.Sprint("slot ", i, " of 256"), slots[i], e, want)
	}
	for _, c := range []struct {
		name    string
		players []string
		want    api.Errno
	}{
		{"nobody", nil, api.ErrEmpty},
		{"201 players", names(201), api.ErrMany},
		{"201 players without names", make([]string, 201), api.ErrMany},
		{"no name", []string{"ann", ""}, api.ErrName},
		{"twice", []string{"ann", "bob", "ann"}, api.ErrTwice},
		{"twice before no name", []string{"ann", "ann", ""}, api.ErrTwice},
		{"no name twice", []string{"", ""}, api.ErrName},
	} {
		slots, e := event.Draw(c.players)
		fails(t, c.name, slots, e, c.want)
		rounds, e := event.Run(c.players, [][]string{nil, nil, nil})
		fails(t, "rounds of "+c.name, rounds, e, c.want)
	}
}

func TestP7_3Advance(t *testing.T) {
	for _, c := range []struct{ slots, losers, want []string }{
		{[]string{"ann", "bob"}, []string{"ann"}, []string{"bob"}},
		{[]string{"ann", "bob"}, []string{"bob"}, []string{"ann"}},
		{[]string{"ann", "bob"}, []string{"bob", "ann"}, []string{""}},
		{[]string{"", "bob"}, nil, []string{"bob"}},
		{[]string{"ann", ""}, nil, []string{"ann"}},
		{[]string{"ann", ""}, []string{"ann"}, []string{""}},
		{[]string{"", ""}, nil, []string{""}},
		{[]string{"ann", "bob", "", "cat", "", "", "dan", "eve"}, []string{"eve", "ann"}, []string{"bob", "cat", "", "dan"}},
		{[]string{"ann", "bob", "", "cat"}, []string{"cat", "ann"}, []string{"bob", ""}},
	} {
		slots, e := event.Advance(c.slots, c.losers)
		gives(t, fmt.Sprint(c.slots, " without ", c.losers), slots, e, c.want)
	}
	for n := 0; n <= 600; n++ {
		slots, e := event.Advance(make([]string, n), nil)
		if slices.Contains([]int{2, 4, 8, 16, 32, 64, 128, 256}, n) {
			gives(t, fmt.Sprint(n, " byes"), slots, e, make([]string, n/2))
		} else {
			fails(t, fmt.Sprint(n, " byes"), slots, e, api.ErrShape)
		}
	}
	slots, e := event.Advance(names(256), names(256)[:255])
	want := make([]string, 128)
	want[127] = "p255"
	gives(t, "256 players", slots, e, want)
	for _, c := range []struct {
		name          string
		slots, losers []string
		want          api.Errno
	}{
		{"no slots", nil, nil, api.ErrShape},
		{"one slot", []string{"ann"}, nil, api.ErrShape},
		{"three slots without names", []string{"1", "1", "1"}, nil, api.ErrShape},
		{"512 slots", make([]string, 512), []string{"ann"}, api.ErrShape},
		{"no name", []string{"ann", "2"}, nil, api.ErrName},
		{"a blank", []string{" ", "ann"}, nil, api.ErrName},
		{"twice", []string{"ann", "ann"}, []string{"ann"}, api.ErrTwice},
		{"twice, far away", []string{"ann", "", "", "ann"}, nil, api.ErrTwice},
		{"an unknown loser", []string{"ann", "bob"}, []string{"ann", "cat"}, api.ErrUnknown},
		{"a bye that loses", []string{"ann", ""}, []string{""}, api.ErrUnknown},
		{"a loser without a name", []string{"ann", "bob"}, []string{"1"}, api.ErrUnknown},
		{"a loser twice", []string{"ann", "bob"}, []string{"bob", "bob"}, api.ErrTwice},
		{"a loser twice before an unknown one", []string{"ann", "bob"}, []string{"bob", "bob", "cat"}, api.ErrTwice},
		{"nobody loses", []string{"ann", "bob"}, nil, api.ErrState},
		{"nobody loses in the second pair", []string{"ann", "bob", "cat", "dan"}, []string{"ann"}, api.ErrState},
		{"nobody loses in the first pair", []string{"ann", "bob", "cat", "dan"}, []string{"cat", "dan"}, api.ErrState},
	} {
		slots, e := event.Advance(c.slots, c.losers)
		fails(t, c.name, slots, e, c.want)
	}
}

func TestP7_3Run(t *testing.T) {
	three := []string{"ann", "bob", "cat"}
	draw := []string{"ann", "", "bob", "cat"}
	for _, c := range []struct {
		name    string
		players []string
		losers  [][]string
		want    [][]string
	}{
		{"no losers", three, nil, [][]string{draw}},
		{"one round", three, [][]string{{"bob"}}, [][]string{draw, {"ann", "cat"}}},
		{"both rounds", three, [][]string{{"bob"}, {"ann"}}, [][]string{draw, {"ann", "cat"}, {"cat"}}},
		{"nobody is left", three, [][]string{{"bob", "cat", "ann"}, nil}, [][]string{draw, {"", ""}, {""}}},
		{"one player", []string{"ann"}, nil, [][]string{{"ann"}}},
	} {
		rounds, e := event.Run(c.players, c.losers)
		gives(t, c.name, rounds, e, c.want)
	}
	for _, c := range []struct {
		name    string
		players []string
		losers  [][]string
		want    api.Errno
	}{
		{"three rounds", three, [][]string{{"bob"}, {"ann"}, nil}, api.ErrOver},
		{"three rounds with errors", three, [][]string{nil, {"x"}, nil}, api.ErrOver},
		{"a round of one player", []string{"ann"}, [][]string{{"ann"}}, api.ErrOver},
		{"nobody who loses", three, [][]string{nil}, api.ErrState},
		{"the first round before the second one", three, [][]string{nil, {"x"}}, api.ErrState},
		{"a loser of the round before", three, [][]string{{"bob"}, {"bob"}}, api.ErrUnknown},
		{"twice in the second round", three, [][]string{{"bob"}, {"cat", "cat"}}, api.ErrTwice},
		{"players before losers", []string{"ann", "ann"}, [][]string{nil, nil, nil}, api.ErrTwice},
	} {
		rounds, e := event.Run(c.players, c.losers)
		fails(t, c.name, rounds, e, c.want)
	}
}

// losersOf returns losers of a round at random; some players with a bye withdraw.
func losersOf(random *rand.Rand, slots []string) []string {
	var losers []string
	for i := 0; i < len(slots); i += 2 {
		first, second := slots[i], slots[i+1]
		switch {
		case first != "" && second != "":
			losers = append(losers, pick(random, []string{first}, []string{second}, []string{first, second})...)
		case random.Intn(5) == 0 && first+second != "":
			losers = append(losers, first+second)
		}
	}
	random.Shuffle(len(losers), func(i, j int) { losers[i], losers[j] = losers[j], losers[i] })
	return losers
}

func TestP7_3RunIsDrawAndAdvance(t *testing.T) {
	random := rand.New(rand.NewSource(7))
	for range 300 {
		players := names(1 + random.Intn(40))
		slots, e := event.Draw(players)
		want := [][]string{ok(t, slots, e)}
		var losers [][]string
		for len(slots) > 1 {
			losers = append(losers, losersOf(random, slots))
			next, e := event.Advance(slots, losers[len(losers)-1])
			for i, player := range ok(t, next, e) {
				var left []string
				for _, p := range slots[2*i : 2*i+2] {
					if p != "" && !slices.Contains(losers[len(losers)-1], p) {
						left = append(left, p)
					}
				}
				is(t, "the only one who is left", player, append(left, "")[0])
				is(t, "at most one", len(left) <= 1, true)
			}
			slots = next
			want = append(want, slots)
		}
		part := random.Intn(len(losers) + 1)
		rounds, e := event.Run(players, losers[:part])
		gives(t, "some rounds", rounds, e, want[:part+1])
		rounds, e = event.Run(players, losers)
		gives(t, "all rounds", rounds, e, want)
		rounds, e = event.Run(players, append(losers, nil))
		fails(t, "a round more", rounds, e, api.ErrOver)
	}
}
