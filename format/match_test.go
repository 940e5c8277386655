package format_test

import (
	"fmt"
	"math"
	"math/rand"
	"strings"
	"testing"

	"niblick/api"
	"niblick/format"
)

// states returns the states of a match of so many holes, by the holes up after each one; the last state may be over.
func states(holes int, over bool, ups ...int) []format.State {
	var l []format.State
	for i, up := range ups {
		l = append(l, format.State{Up: up, To: holes - 1 - i, Over: over && i == len(ups)-1})
	}
	return l
}

func TestP5_3Examples(t *testing.T) {
	l, e := format.Match(four(), adam(), eve())
	gives(t, "the match of A and B", l, e, []format.State{{Up: 1, To: 3}, {Up: 1, To: 2}, {Up: 2, To: 1, Over: true}})
	words, e := format.Describe(l[2])
	gives(t, "its words", words, e, "first 2 and 1")
}

func TestP5_3Match(t *testing.T) {
	h := four()
	l, e := format.Match(h, eve(), adam())
	gives(t, "the match of B and A", l, e, states(4, true, -1, -1, -2))
	l, e = format.Match(h, player("A", 4, "5 4 6 5"), player("B", 0, "4 3 5 4"))
	gives(t, "net strokes that are equal", l, e, states(4, true, 0, 0, 0, 0))
	l, e = format.Match(h, player("A", 0, "4c 3 x 4"), player("B", 0, "5 3 8 -"))
	gives(t, "a match that is not ended", l, e, states(4, false, 1, 1, 0))
	l, e = format.Match(h, player("A", 0, "- 3 x 4"), player("B", 0, "5 3 8 4"))
	gives(t, "a match that is not begun", l, e, nil)
	for name, p := range map[string]format.Player{"himself": adam(), "the same name": player("A", 1, "4 4 4 4")} {
		_, e = format.Match(h, adam(), p)
		is(t, "a match with "+name, e, api.ErrTwice)
	}
}

func TestP5_3Sides(t *testing.T) {
	for _, c := range []struct {
		name, a, b string
		want       []format.State
	}{
		{"a hole won", "4", "5", states(1, true, 1)},
		{"a hole lost", "5", "4", states(1, true, -1)},
		{"a hole halved", "4", "4", states(1, true, 0)},
		{"a hole not counted", "x", "999", states(1, true, -1)},
		{"a hole that the other one has not counted", "999", "x", states(1, true, 1)},
		{"a hole of none", "x", "x", states(1, true, 0)},
		{"strokes of 0 against a mark", "0", "x", states(1, true, 1)},
		{"net strokes below 0", "-999", "-998", states(1, true, 1)},
		{"not played by the first side", "-", "4", nil},
		{"not played by the second side", "4", "-", nil},
		{"not played by both", "-", "-", nil},
		{"not played, and picked up", "-", "x", nil},
		{"as many up as to play", "3 3 4 4", "4 4 4 4", states(4, true, 1, 2, 2)},
		{"dormie, and halved", "3 4 4", "4 3 4", states(3, true, 1, 0, 0)},
		{"one more up than to play", "3 3 3", "4 4 4", states(3, true, 1, 2)},
		{"one more down than to play", "4 4 4", "3 3 -", states(3, true, -1, -2)},
		{"what is behind the end", "3 3 -", "4 4 x", states(3, true, 1, 2)},
		{"what is behind a hole that is not played", "3 - 3 3", "4 4 4 4", states(4, false, 1)},
		{"the last hole not played", "3 4 4 -", "4 4 3 4", states(4, false, 1, 1, 0)},
		{"up and down", "3 4 4 3 3", "4 3 3 4 4", states(5, true, 1, 0, -1, 0, 1)},
	} {
		l, e := format.Sides(nets(c.a), nets(c.b))
		gives(t, c.name, l, e, c.want)
	}
	most := strings.Repeat("1 ", 36)
	l, e := format.Sides(nets(most), nets(strings.Repeat("2 ", 36)))
	is(t, "the error of 36 holes", e, api.OK)
	is(t, "the longest lead", l[len(l)-1], format.State{Up: 19, To: 17, Over: true})
}

func TestP5_3SidesErrors(t *testing.T) {
	for _, c := range []struct {
		name string
		n    format.Net
		want api.Errno
	}{
		{"the most", format.Net{Strokes: 999}, api.OK},
		{"more", format.Net{Strokes: 1000}, api.ErrRange},
		{"the fewest", format.Net{Strokes: -999}, api.OK},
		{"fewer", format.Net{Strokes: -1000}, api.ErrRange},
		{"the least integer", format.Net{Strokes: math.MinInt}, api.ErrRange},
		{"picked up", format.Net{Mark: "x"}, api.OK},
		{"picked up with strokes", format.Net{Strokes: 1, Mark: "x"}, api.ErrRange},
		{"picked up with strokes below 0", format.Net{Strokes: -1, Mark: "x"}, api.ErrRange},
		{"not played", format.Net{Mark: "-"}, api.OK},
		{"not played with strokes", format.Net{Strokes: 1, Mark: "-"}, api.ErrRange},
		{"not played with strokes below 0", format.Net{Strokes: -1, Mark: "-"}, api.ErrRange},
		{"conceded", format.Net{Strokes: 4, Mark: "c"}, api.ErrKind},
		{"a mark and too many strokes", format.Net{Strokes: 1000, Mark: "X"}, api.ErrKind},
		{"two marks", format.Net{Mark: "x-"}, api.ErrKind},
	} {
		l, plain := []format.Net{{}, c.n}, make([]format.Net, 2)
		_, e := format.Sides(l, plain)
		is(t, c.name, e, c.want)
		_, e = format.Sides(plain, l)
		is(t, c.name+" of the second side", e, c.want)
	}
	for _, c := range []struct {
		a, b int
		want api.Errno
	}{{36, 36, api.OK}, {37, 37, api.ErrMany}, {36, 37, api.ErrMany}, {36, 35, api.ErrShape}, {35, 36, api.ErrShape}, {1, 0, api.ErrEmpty}, {0, 37, api.ErrEmpty}, {37, 0, api.ErrMany}} {
		_, e := format.Sides(make([]format.Net, c.a), make([]format.Net, c.b))
		is(t, fmt.Sprint(c.a, " and ", c.b, " holes"), e, c.want)
	}
}

func TestP5_3ByDefinition(t *testing.T) {
	random := rand.New(rand.NewSource(5))
	for range 5000 {
		n := 1 + random.Intn(36)
		a, b := randomNets(random, n, 20), randomNets(random, n, 20)
		l, e := format.Sides(a, b)
		gives(t, "Sides", l, e, slowStates(a, b))
		h := randomHoles(random, n)
		players := randomPlayers(random, n, 2, 20)
		l, e = format.Match(h, players[0], players[1])
		gives(t, "Match", l, e, slowStates(slowNets(h, players[0]), slowNets(h, players[1])))
	}
}

func TestP5_3Describe(t *testing.T) {
	for _, c := range []struct {
		s     format.State
		words string
		want  api.Errno
	}{
		{format.State{Over: true}, "halved", api.OK},
		{format.State{Up: 1, Over: true}, "first 1 up", api.OK},
		{format.State{Up: 2, Over: true}, "first 2 up", api.OK},
		{format.State{Up: -1, Over: true}, "second 1 up", api.OK},
		{format.State{Up: 10, To: 8, Over: true}, "first 10 and 8", api.OK},
		{format.State{Up: -2, To: 1, Over: true}, "second 2 and 1", api.OK},
		{format.State{Up: 36, To: 35, Over: true}, "first 36 and 35", api.OK},
		{format.State{Up: -36, To: 35, Over: true}, "second 36 and 35", api.OK},
		{format.State{Up: -36, Over: true}, "second 36 up", api.OK},
		{format.State{Up: 36, To: 36, Over: true}, "", api.ErrState},
		{format.State{Up: -36, To: 36, Over: true}, "", api.ErrState},
		{format.State{To: 1, Over: true}, "", api.ErrState},
		{format.State{To: 1}, "", api.ErrState},
		{format.State{}, "", api.ErrForm},
		{format.State{Up: 2, To: 1}, "", api.ErrForm},
		{format.State{Up: 37, Over: true}, "", api.ErrRange},
		{format.State{Up: -37, To: 1, Over: true}, "", api.ErrRange},
		{format.State{Up: 37, To: 36}, "", api.ErrRange},
		{format.State{To: 37}, "", api.ErrRange},
		{format.State{To: -1}, "", api.ErrRange},
		{format.State{Up: 1, To: -1, Over: true}, "", api.ErrRange},
		{format.State{Up: math.MinInt, Over: true}, "", api.ErrRange},
		{format.State{Up: math.MaxInt, To: math.MinInt, Over: true}, "", api.ErrRange},
	} {
		words, e := format.Describe(c.s)
		is(t, fmt.Sprint("the words of ", c.s), words, c.words)
		is(t, fmt.Sprint("the error of ", c.s), e, c.want)
	}
}

func TestP5_3DescribeByDefinition(t *testing.T) {
	for up := -36; up <= 36; up++ {
		for to := 0; to <= 36; to++ {
			for _, over := range []bool{false, true} {
				s := format.State{Up: up, To: to, Over: over}
				words, e := format.Describe(s)
				switch {
				case to > 0 && -to <= up && up <= to:
					is(t, fmt.Sprint("the error of ", s), e, api.ErrState)
				case !over:
					is(t, fmt.Sprint("the error of ", s), e, api.ErrForm)
				default:
					gives(t, fmt.Sprint("the words of ", s), words, e, slowWords(s))
				}
			}
		}
	}
}
