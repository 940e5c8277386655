package play_test

import (
	"fmt"
	"math/rand"
	"slices"
	"testing"

	"niblick/api"
	"niblick/course"
	"niblick/play"
)

// ruleCase is an act in a state, with the rule that refuses it.
type ruleCase struct {
	name string
	x    play.State
	a    play.Act
	rule int
}

// ruled checks rules of acts, and that Next agrees.
func ruled(t *testing.T, s play.Setup, cases ...ruleCase) {
	t.Helper()
	for _, c := range cases {
		rule, e := play.Legal(s, c.x, c.a)
		gives(t, c.name, rule, e, c.rule)
		want := api.OK
		if c.rule != 0 {
			want = api.ErrRule
		}
		next, e := play.Next(s, c.x, c.a)
		is(t, c.name+": the error of Next", e, want)
		is(t, c.name+": balls of Next", len(next.Balls) > 0, c.rule == 0)
	}
}

// The kinds for which a ball has to be in a phase, with the rule that says so.
var phaseRules = map[string]struct {
	phase string
	rule  int
}{
	"stroke": {"play", 2}, "doubt": {"play", 2}, "again": {"play", 2}, "back": {"play", 2}, "side": {"play", 2}, "wrong": {"play", 2}, "mark": {"play", 2}, "concede": {"play", 2},
	"provisional": {"doubt", 4}, "found": {"doubt", 4}, "lost": {"doubt", 4},
	"replace": {"lifted", 5},
}

func TestP4_2Phases(t *testing.T) {
	for _, kind := range allKinds {
		for _, phase := range []string{"play", "doubt", "lifted", "done"} {
			want := 0
			if need, ok := phaseRules[kind]; ok && need.phase != phase {
				want = need.rule
			}
			if phase == "done" {
				want = 1
			}
			a := do(0, kind)
			if slices.Contains(placed, kind) {
				a.At = at(95, 0)
			}
			// The ball lies where it is relieved, and in the green.
			x := state(pond(), inPhase(ball(95, 0), phase))
			ruled(t, pond(), ruleCase{kind + " in the phase " + phase, x, a, want})
		}
	}
}

func TestP4_2Ends(t *testing.T) {
	for _, end := range []string{"holed", "conceded", "picked"} {
		for _, kind := range allKinds {
			x := state(pond(), with(ball(20, 0), func(b *play.Ball) { b.Phase, b.End = "done", end }))
			ruled(t, pond(), ruleCase{kind + " behind " + end, x, do(0, kind), 1})
		}
	}
}

func TestP4_2StrictOrder(t *testing.T) {
	s := links()
	s.Players, s.Strict = 3, true
	x := state(s, ball(20, 0), ball(30, 0), ball(10, 0))
	ruled(t, s,
		ruleCase{"the farthest ball", x, act(2, "stroke", 50, 0), 0},
		ruleCase{"the farthest ball in doubt", x, do(2, "doubt"), 0},
		ruleCase{"a nearer ball", x, act(0, "stroke", 50, 0), 3},
		ruleCase{"a nearer ball in doubt", x, do(1, "doubt"), 3},
		ruleCase{"another act of a nearer ball", x, do(1, "wrong"), 0},
		ruleCase{"relief of a nearer ball", x, act(1, "back", 25, 0), 0},
		ruleCase{"the concession of a nearer ball", x, do(1, "concede"), 0},
		ruleCase{"a second stroke before a first", state(s, ball(20, 0), ball(30, 0)), act(0, "stroke", 50, 0), 3},
		ruleCase{"the first stroke", state(s, ball(20, 0), ball(30, 0)), act(2, "stroke", 50, 0), 0},
		ruleCase{"behind a lifted ball", state(s, ball(95, 0), inPhase(ball(91, 0), "lifted"), inPhase(ball(0, 0), "done")), act(0, "stroke", 100, 0), 3},
		ruleCase{"a ball in doubt is not waited for", state(s, ball(20, 0), inPhase(ball(0, 0), "doubt"), ball(30, 0)), act(0, "stroke", 100, 0), 0},
		ruleCase{"two balls at the same distance", state(s, ball(95, 0), ball(105, 0), ball(100, 5)), act(1, "stroke", 100, 0), 3},
	)
	s.Strict = false
	ruled(t, s,
		ruleCase{"no strict order", x, act(0, "stroke", 50, 0), 0},
		ruleCase{"doubt in no strict order", x, do(1, "doubt"), 0},
	)
}

func TestP4_2BehindAStroke(t *testing.T) {
	fresh := with(ball(0, 0), func(b *play.Ball) { b.Strokes, b.Penalty = 0, 2 })
	for kind, want := range map[string]int{"stroke": 0, "doubt": 0, "again": 6, "back": 6, "side": 6, "wrong": 0, "concede": 6, "pick": 0} {
		ruled(t, pond(),
			ruleCase{kind + " before a stroke", state(pond(), fresh), do(0, kind), want},
			ruleCase{kind + " behind a stroke", state(pond(), ball(0, 0)), do(0, kind), 0})
	}
	ruled(t, pond(), ruleCase{"a place that is wrong, too", state(pond(), fresh), act(0, "back", 50, 5), 6})
}

func TestP4_2ProvisionalInTheCup(t *testing.T) {
	in := func(spares, x int) play.State {
		return state(pond(), with(inPhase(ball(20, 0), "doubt"), func(b *play.Ball) { b.Spares, b.Spare = spares, at(x, 0) }))
	}
	ruled(t, pond(),
		ruleCase{"in the cup", in(1, 100), act(0, "provisional", 90, 0), 7},
		ruleCase{"beside the cup", in(1, 99), act(0, "provisional", 90, 0), 0},
		ruleCase{"no provisional ball", in(0, 100), act(0, "provisional", 90, 0), 0},
		ruleCase{"in the cup, and found", in(1, 100), act(0, "found", 90, 0), 0},
		ruleCase{"in the cup, and lost", in(1, 100), do(0, "lost"), 0},
	)
}

func TestP4_2Marks(t *testing.T) {
	s := links()
	s.Club = 5
	two := func(a, b play.Ball) play.State { return state(s, a, b) }
	ruled(t, s,
		ruleCase{"in the green", two(ball(90, 10), ball(20, 0)), do(0, "mark"), 0},
		ruleCase{"beside the green", two(ball(89, 10), ball(20, 0)), do(0, "mark"), 8},
		ruleCase{"a club away", two(ball(10, 0), ball(13, 4)), do(0, "mark"), 0},
		ruleCase{"a club away from the one before", two(ball(10, 0), ball(13, 4)), do(1, "mark"), 0},
		ruleCase{"more than a club away", two(ball(10, 0), ball(14, 4)), do(0, "mark"), 8},
		ruleCase{"a club and more in one direction", two(ball(10, 0), ball(10, -6)), do(0, "mark"), 8},
		ruleCase{"a ball in doubt nearby", two(ball(10, 0), inPhase(ball(10, 0), "doubt")), do(0, "mark"), 8},
		ruleCase{"a lifted ball nearby", two(ball(10, 0), inPhase(ball(10, 0), "lifted")), do(0, "mark"), 8},
		ruleCase{"a done ball nearby", two(ball(10, 0), inPhase(ball(10, 0), "done")), do(0, "mark"), 8},
		ruleCase{"a fourth ball nearby", state(s, ball(10, 0), ball(20, 0), ball(30, 0), ball(30, 5)), do(2, "mark"), 0},
		ruleCase{"alone", state(s, ball(10, 0), ball(20, 0), ball(30, 0), ball(30, 6)), do(2, "mark"), 8},
	)
}

func TestP4_2Back(t *testing.T) {
	s := links()
	pond := func(edgeX, edgeY api.Rat) play.State { return state(s, wet(50, 0, edgeX, edgeY)) }
	ruled(t, s,
		ruleCase{"behind the edge", pond("40", "0"), act(0, "back", 39, 0), 0},
		ruleCase{"far behind the edge", pond("40", "0"), act(0, "back", -10, 0), 0},
		ruleCase{"beside the line", pond("40", "0"), act(0, "back", 30, 1), 9},
		ruleCase{"between the edge and the cup", pond("40", "0"), act(0, "back", 61, 0), 9},
		ruleCase{"the cup", pond("40", "0"), act(0, "back", 100, 0), 9},
		ruleCase{"behind the cup", pond("40", "0"), act(0, "back", 120, 0), 9},
		ruleCase{"as far behind the cup", pond("90", "0"), act(0, "back", 110, 0), 9},
		ruleCase{"the edge, in the water", pond("40", "0"), act(0, "back", 40, 0), 12},
		ruleCase{"the edge, on land", pond("38", "0"), act(0, "back", 38, 0), 0},
		ruleCase{"behind the edge, out", pond("40", "0"), act(0, "back", -11, 0), 12},
		ruleCase{"behind the edge, in the water", pond("61", "0"), act(0, "back", 41, 0), 12},
		ruleCase{"behind an edge with fractions", pond("175/2", "25/6"), act(0, "back", 70, 10), 0},
		ruleCase{"beside an edge with fractions", pond("175/2", "25/7"), act(0, "back", 70, 10), 9},
		ruleCase{"a long edge", pond("1"+api.Rat(zeros(599)), "1"), act(0, "back", 110, 0), 9},
		ruleCase{"no farther than an edge very far away", pond("1"+api.Rat(zeros(599)), "0"), act(0, "back", 110, 0), 9},
		ruleCase{"an edge very near the cup", pond("100", "1/1"+api.Rat(zeros(599))), act(0, "back", 100, 20), 0},
		ruleCase{"an edge in the cup", pond("100", "0"), act(0, "back", 33, -7), 0},
		ruleCase{"an edge in the cup, to the cup", pond("100", "0"), act(0, "back", 100, 0), 0},
		ruleCase{"a ball on land", state(s, ball(80, 10)), act(0, "back", 60, 20), 0},
		ruleCase{"a ball where it lies", state(s, ball(80, 10)), act(0, "back", 80, 10), 0},
		ruleCase{"a ball on land beside its line", state(s, ball(80, 10)), act(0, "back", 62, 20), 9},
		ruleCase{"a ball on the other side", state(s, ball(80, 10)), act(0, "back", 120, -10), 9},
		ruleCase{"a ball in the cup", state(s, ball(100, 0)), act(0, "back", 0, 5), 0},
		ruleCase{"a ball in a bunker, in it", state(s, ball(75, 0)), act(0, "back", 70, 0), 0},
		ruleCase{"a ball in a bunker, out of it", state(s, ball(75, 0)), act(0, "back", 69, 0), 13},
		ruleCase{"a ball in a bunker, to water", state(s, ball(75, 0)), act(0, "back", 55, 0), 12},
		ruleCase{"a ball on land, to a bunker", state(s, ball(85, 0)), act(0, "back", 80, 0), 0},
	)
}

func zeros(n int) string {
	return string(slices.Repeat([]byte("0"), n))
}

func TestP4_2Side(t *testing.T) {
	s := links()
	s.Club = 5
	pond := func(edgeX, edgeY api.Rat) play.State { return state(s, wet(50, 0, edgeX, edgeY)) }
	ruled(t, s,
		ruleCase{"two clubs away", pond("40", "10"), act(0, "side", 34, 18), 0},
		ruleCase{"more than two clubs away", pond("40", "10"), act(0, "side", 34, 19), 10},
		ruleCase{"far nearer to the cup", pond("40", "10"), act(0, "side", 60, 11), 10},
		ruleCase{"nearer to the cup", pond("40", "10"), act(0, "side", 41, 11), 11},
		ruleCase{"as near as the edge", pond("40", "10"), act(0, "side", 40, 10), 12},
		ruleCase{"as near on land", pond("36", "2"), act(0, "side", 36, -2), 0},
		ruleCase{"in the water", pond("35", "2"), act(0, "side", 40, 10), 11},
		ruleCase{"in the water beside the edge", pond("41", "0"), act(0, "side", 41, 3), 12},
		ruleCase{"out", pond("40", "18"), act(0, "side", 39, 22), 12},
		ruleCase{"just less than two clubs of an edge with fractions", pond("40", "1/3"), act(0, "side", 31, 4), 0},
		ruleCase{"just more than two clubs of an edge with fractions", pond("40", "1/3"), act(0, "side", 31, 5), 10},
		ruleCase{"an edge that is just nearer", pond("100001/2500", "0"), act(0, "side", 39, 0), 0},
		ruleCase{"an edge that is just farther", pond("38", "1/1"+api.Rat(zeros(599))), act(0, "side", 38, 0), 11},
		ruleCase{"an edge very far away", pond(most, "0"), act(0, "side", 39, 0), 10},
		ruleCase{"a ball on land", state(s, ball(20, 0)), act(0, "side", 17, 9), 0},
		ruleCase{"a ball on land, too far", state(s, ball(20, 0)), act(0, "side", 15, 9), 10},
		ruleCase{"a ball on land, nearer", state(s, ball(20, 0)), act(0, "side", 21, 1), 11},
		ruleCase{"a ball in a bunker, in it", state(s, ball(75, 0)), act(0, "side", 70, 5), 0},
		ruleCase{"a ball in a bunker, out of it", state(s, ball(75, 0)), act(0, "side", 75, 6), 13},
		ruleCase{"a ball in a bunker, to water", state(s, ball(70, 0)), act(0, "side", 60, 0), 12},
	)
}

func TestP4_2TooManyStrokes(t *testing.T) {
	s := links()
	full := func(phase string, left int) play.State {
		return state(s, with(inPhase(ball(95, 0), phase), func(b *play.Ball) { b.Strokes, b.Penalty, b.Spares = 90-left, 5, 4 }))
	}
	for _, c := range []struct {
		phase string
		a     play.Act
		needs int
	}{
		{"play", act(0, "stroke", 50, 0), 1},
		{"play", act(0, "stroke", 130, 0), 2},
		{"play", act(0, "stroke", 100, 0), 1},
		{"play", do(0, "doubt"), 1},
		{"play", do(0, "again"), 1},
		{"play", act(0, "back", 95, 0), 1},
		{"play", act(0, "side", 95, 0), 1},
		{"play", do(0, "wrong"), 2},
		{"play", do(0, "mark"), 0},
		{"play", do(0, "concede"), 1},
		{"play", do(0, "pick"), 0},
		{"doubt", act(0, "provisional", 90, 0), 1},
		{"doubt", act(0, "provisional", 130, 0), 2},
		{"doubt", act(0, "provisional", 50, 0), 2},
		{"doubt", act(0, "found", 130, 0), 0},
		{"doubt", do(0, "lost"), 1},
		{"lifted", do(0, "replace"), 0},
	} {
		for left := range 3 {
			want := 14
			if left >= c.needs {
				want = 0
			}
			ruled(t, s, ruleCase{c.a.Kind, full(c.phase, left), c.a, want})
		}
	}
	x := state(s, with(inPhase(ball(95, 0), "doubt"), func(b *play.Ball) { b.Strokes = 99 }))
	ruled(t, s,
		ruleCase{"found out behind 99 strokes", x, act(0, "found", 130, 0), 14},
		ruleCase{"found behind 99 strokes", x, act(0, "found", 50, 0), 0},
		ruleCase{"the end behind 99 strokes", x, do(0, "pick"), 0},
		ruleCase{"another rule before the number of strokes", x, act(0, "stroke", 130, 0), 2})
}

// followed checks the ball of the player 0 behind an act, and that the other ones are as before.
func followed(t *testing.T, name string, s play.Setup, b play.Ball, a play.Act, want play.Ball) {
	t.Helper()
	x := state(s, b, ball(33, 3))
	next, e := play.Next(s, x, a)
	gives(t, name, next, e, state(s, want, ball(33, 3)))
}

func TestP4_2Strokes(t *testing.T) {
	lying := ball(20, 5)
	lying.Spare = at(7, 7)
	struck := with(lying, func(b *play.Ball) { b.Strokes, b.From = 2, at(20, 5) })
	for _, c := range []struct {
		name string
		at   api.Place
		want play.Ball
	}{
		{"to land", at(70, 5), with(struck, func(b *play.Ball) { b.At = at(70, 5) })},
		{"to where it lies", at(20, 5), struck},
		{"to the cup", at(100, 0), with(struck, func(b *play.Ball) { b.At, b.Phase, b.End = at(100, 0), "done", "holed" })},
		{"out", at(20, 21), with(struck, func(b *play.Ball) { b.Penalty = 1 })},
		{"to water", at(50, 5), with(struck, func(b *play.Ball) { b.At, b.Edge = at(50, 5), point("40", "5") })},
		{"to water on a slope", at(50, -2), with(struck, func(b *play.Ball) { b.At, b.Edge = at(50, -2), point("40", "1/3") })},
		{"to the border of water", at(40, 5), with(struck, func(b *play.Ball) { b.At, b.Edge = at(40, 5), point("40", "5") })},
		{"to a corner of water", at(40, -10), with(struck, func(b *play.Ball) { b.At, b.Edge = at(40, -10), point("40", "-10") })},
	} {
		followed(t, c.name, pond(), lying, act(0, "stroke", c.at.X, c.at.Y), c.want)
	}
	followed(t, "the first stroke", pond(), with(ball(0, 0), func(b *play.Ball) { b.Strokes = 0 }), act(0, "stroke", 10, 0), ball(10, 0))
}

func TestP4_2StrokesInTheWater(t *testing.T) {
	lying := wet(50, 5, "40", "7/2")
	struck := with(lying, func(b *play.Ball) { b.Strokes, b.From = 2, at(50, 5) })
	for _, c := range []struct {
		name string
		at   api.Place
		want play.Ball
	}{
		{"to land", at(70, 5), with(struck, func(b *play.Ball) { b.At, b.Edge = at(70, 5), none })},
		{"within the water", at(55, 10), with(struck, func(b *play.Ball) { b.At = at(55, 10) })},
		{"to where it lies", at(50, 5), struck},
		{"out", at(50, 21), with(struck, func(b *play.Ball) { b.Penalty = 1 })},
		{"to the cup", at(100, 0), with(struck, func(b *play.Ball) { b.At, b.Edge, b.Phase, b.End = at(100, 0), none, "done", "holed" })},
	} {
		followed(t, c.name, pond(), lying, act(0, "stroke", c.at.X, c.at.Y), c.want)
	}
	// A second pond, which only touches the way, or into which the way comes anew.
	s := pond()
	s.Hole.Areas = append(s.Hole.Areas, course.Area{Kind: "water", Corners: []api.Place{at(70, 0), at(80, -10), at(80, 10)}})
	followed(t, "to another pond", s, wet(50, 0, "40", "0"), act(0, "stroke", 75, 0),
		with(wet(75, 0, "70", "0"), func(b *play.Ball) { b.Strokes, b.From = 2, at(50, 0) }))
	followed(t, "to a corner of another pond", s, wet(50, 0, "41", "0"), act(0, "stroke", 70, 0),
		with(wet(70, 0, "41", "0"), func(b *play.Ball) { b.Strokes, b.From = 2, at(50, 0) }))
	followed(t, "to a corner behind another part", s, ball(0, 0), act(0, "stroke", 70, 0),
		with(wet(70, 0, "40", "0"), func(b *play.Ball) { b.Strokes, b.From = 2, at(0, 0) }))
	// From the green in the water the way begins with water, but the ball did not lie in it.
	s.Hole.Areas[1].Corners = box(40, -10, 95, 10)
	followed(t, "from a green beside the water", s, ball(90, 0), act(0, "stroke", 80, 0),
		with(wet(80, 0, "90", "0"), func(b *play.Ball) { b.Strokes, b.From = 2, at(90, 0) }))
}

func TestP4_2BallsInDoubt(t *testing.T) {
	lying := wet(50, 5, "40", "7/2")
	lying.From, lying.Spare = at(3, 3), at(7, 7)
	doubt := with(lying, func(b *play.Ball) { b.Phase, b.Strokes, b.From = "doubt", 2, at(50, 5) })
	followed(t, "doubt", pond(), lying, do(0, "doubt"), doubt)
	for _, c := range []struct {
		name string
		at   api.Place
		want play.Ball
	}{
		{"found in the water", at(55, 0), with(doubt, func(b *play.Ball) { b.At = at(55, 0) })},
		{"found on land", at(70, 5), with(doubt, func(b *play.Ball) { b.At, b.Edge = at(70, 5), none })},
		{"found in the cup", at(100, 0), with(doubt, func(b *play.Ball) { b.At, b.Edge, b.End = at(100, 0), none, "holed" })},
		{"found out", at(70, 50), with(doubt, func(b *play.Ball) { b.Penalty = 1 })},
	} {
		want := with(c.want, func(b *play.Ball) {
			b.Spares, b.Spare, b.Phase = 0, at(50, 5), "play"
			if b.End != "" {
				b.Phase = "done"
			}
		})
		followed(t, c.name, pond(), doubt, act(0, "found", c.at.X, c.at.Y), want)
		followed(t, c.name+" behind a provisional ball", pond(), with(doubt, func(b *play.Ball) { b.Spares = 3 }), act(0, "found", c.at.X, c.at.Y), want)
	}
	found := with(doubt, func(b *play.Ball) { b.Phase, b.From, b.Spare = "play", at(0, 0), at(0, 0) })
	followed(t, "found in the water, played from land", pond(), with(doubt, func(b *play.Ball) { b.From = at(0, 0) }), act(0, "found", 50, 0),
		with(found, func(b *play.Ball) { b.At, b.Edge = at(50, 0), point("40", "0") }))
	followed(t, "found out, played from land", pond(), with(doubt, func(b *play.Ball) { b.From = at(0, 0) }), act(0, "found", 130, 0),
		with(found, func(b *play.Ball) { b.At, b.Edge, b.Penalty = at(0, 0), none, 1 }))
	followed(t, "found out, played from elsewhere in the water", pond(), with(doubt, func(b *play.Ball) { b.From = at(60, -1) }), act(0, "found", 130, 0),
		with(found, func(b *play.Ball) {
			b.At, b.From, b.Spare, b.Edge, b.Penalty = at(60, -1), at(60, -1), at(60, -1), point("60", "-1"), 1
		}))
}

func TestP4_2ProvisionalBalls(t *testing.T) {
	doubt := with(ball(20, 0), func(b *play.Ball) { b.Phase, b.From, b.Spare = "doubt", at(20, 0), at(7, 7) })
	for _, c := range []struct {
		name          string
		spares        int
		at            api.Place
		after, lies   int
		liesY, spareY int
	}{
		{"the first one", 0, at(80, 1), 1, 80, 1, 7},
		{"the first one out", 0, at(80, 30), 2, 20, 0, 7},
		{"the first one in the water", 0, at(50, 0), 2, 20, 0, 7},
		{"the second one", 1, at(80, 1), 2, 80, 1, 7},
		{"the second one out", 1, at(80, 30), 3, 7, 7, 7},
		{"the second one on the border of water", 2, at(60, 10), 4, 7, 7, 7},
		{"in the cup", 2, at(100, 0), 3, 100, 0, 7},
	} {
		b := with(doubt, func(b *play.Ball) { b.Spares = c.spares })
		followed(t, c.name, pond(), b, act(0, "provisional", c.at.X, c.at.Y),
			with(b, func(b *play.Ball) { b.Spares, b.Spare = c.after, at(c.lies, c.liesY) }))
	}
}

func TestP4_2LostBalls(t *testing.T) {
	doubt := with(wet(50, 0, "40", "1/2"), func(b *play.Ball) {
		b.Phase, b.From, b.Spare, b.Strokes, b.Penalty = "doubt", at(50, 0), at(80, 1), 4, 2
	})
	lost := with(doubt, func(b *play.Ball) { b.Phase, b.Spare, b.Penalty = "play", at(50, 0), 3 })
	for _, c := range []struct {
		name   string
		change func(b *play.Ball)
		want   func(b *play.Ball)
	}{
		{"without a provisional ball", func(b *play.Ball) {}, func(b *play.Ball) {}},
		{"with a provisional ball", func(b *play.Ball) { b.Spares = 3 }, func(b *play.Ball) { b.Strokes, b.At, b.Edge = 7, at(80, 1), none }},
		{"with one where the ball lay", func(b *play.Ball) { b.Spares, b.Spare = 2, at(50, 0) }, func(b *play.Ball) { b.Strokes = 6 }},
		{"with one elsewhere in the water", func(b *play.Ball) { b.Spares, b.Spare = 2, at(60, 10) }, func(b *play.Ball) { b.Strokes, b.At, b.Edge = 6, at(60, 10), point("60", "10") }},
		{"with one in the cup", func(b *play.Ball) { b.Spares, b.Spare = 1, at(100, 0) }, func(b *play.Ball) { b.Strokes, b.At, b.Edge, b.Phase, b.End = 5, at(100, 0), none, "done", "holed" }},
		{"played from land", func(b *play.Ball) { b.From = at(3, 3) }, func(b *play.Ball) { b.From, b.Spare, b.At, b.Edge = at(3, 3), at(3, 3), at(3, 3), none }},
		{"played from elsewhere in the water", func(b *play.Ball) { b.From = at(45, -3) }, func(b *play.Ball) {
			b.From, b.Spare, b.At, b.Edge = at(45, -3), at(45, -3), at(45, -3), point("45", "-3")
		}},
		{"played from the cup", func(b *play.Ball) { b.From = at(100, 0) }, func(b *play.Ball) {
			b.From, b.Spare, b.At, b.Edge, b.Phase, b.End = at(100, 0), at(100, 0), at(100, 0), none, "done", "holed"
		}},
	} {
		followed(t, c.name, pond(), with(doubt, c.change), do(0, "lost"), with(lost, c.want))
	}
}

func TestP4_2OtherActs(t *testing.T) {
	water := with(wet(50, 0, "40", "2"), func(b *play.Ball) { b.From, b.Spare = at(1, 1), at(7, 7) })
	again := with(water, func(b *play.Ball) { b.Penalty, b.At, b.Edge = 1, at(1, 1), none })
	followed(t, "again", pond(), water, do(0, "again"), again)
	followed(t, "again from elsewhere in the water", pond(), with(water, func(b *play.Ball) { b.From = at(55, 5) }), do(0, "again"),
		with(again, func(b *play.Ball) { b.From, b.At, b.Edge = at(55, 5), at(55, 5), point("55", "5") }))
	followed(t, "again where it lies", pond(), with(water, func(b *play.Ball) { b.From = at(50, 0) }), do(0, "again"),
		with(water, func(b *play.Ball) { b.From, b.Penalty = at(50, 0), 1 }))
	followed(t, "again from the cup", pond(), with(water, func(b *play.Ball) { b.From = at(100, 0) }), do(0, "again"),
		with(again, func(b *play.Ball) { b.From, b.At = at(100, 0), at(100, 0) }))
	followed(t, "back", pond(), water, act(0, "back", 10, 3), with(water, func(b *play.Ball) { b.Penalty, b.At, b.Edge = 1, at(10, 3), none }))
	followed(t, "side", pond(), water, act(0, "side", 38, 0), with(water, func(b *play.Ball) { b.Penalty, b.At, b.Edge = 1, at(38, 0), none }))
	followed(t, "back to the cup", pond(), ball(100, 0), act(0, "back", 100, 0), with(ball(100, 0), func(b *play.Ball) { b.Penalty = 1 }))
	followed(t, "wrong", pond(), water, do(0, "wrong"), with(water, func(b *play.Ball) { b.Penalty = 2 }))
	followed(t, "mark", pond(), ball(34, 3), do(0, "mark"), inPhase(ball(34, 3), "lifted"))
	followed(t, "replace", pond(), inPhase(water, "lifted"), do(0, "replace"), water)
	followed(t, "concede", pond(), water, do(0, "concede"), with(water, func(b *play.Ball) { b.Strokes, b.Phase, b.End = 2, "done", "conceded" }))
	for _, phase := range []string{"play", "doubt", "lifted"} {
		followed(t, "pick", pond(), inPhase(water, phase), do(0, "pick"), inPhase(water, "done"))
	}
}

func TestP4_2Examples(t *testing.T) {
	water := behind(t, pond(), act(0, "stroke", 50, 0))
	is(t, "the Edge", water.Balls[0].Edge, point("40", "0"))
	ruled(t, pond(),
		ruleCase{"side to 37, 2", water, act(0, "side", 37, 2), 0},
		ruleCase{"side to 41, 11", water, act(0, "side", 41, 11), 10},
		ruleCase{"side to 40, 1", water, act(0, "side", 40, 1), 12},
		ruleCase{"back to 30, 0", water, act(0, "back", 30, 0), 0},
		ruleCase{"back to 30, 1", water, act(0, "back", 30, 1), 9})
	x := behind(t, pond(), act(1, "stroke", 130, 0))
	is(t, "out", x.Balls[1], with(ball(0, 0), func(b *play.Ball) { b.Penalty = 1 }))
	x = behind(t, pond(), act(1, "stroke", 130, 0), do(1, "doubt"), act(1, "provisional", 80, 0), do(1, "lost"))
	is(t, "lost", x.Balls[1], with(ball(80, 0), func(b *play.Ball) { b.Strokes, b.Penalty = 3, 2 }))
	s := pond()
	s.Strict = true
	ruled(t, s,
		ruleCase{"who has made no stroke yet", behind(t, s, act(0, "stroke", 10, 0)), act(1, "stroke", 20, 0), 0},
		ruleCase{"who has made one", behind(t, s, act(0, "stroke", 10, 0)), act(0, "stroke", 20, 0), 3})
}

// All rules, and all kinds of acts, against the definitions.
func TestP4_2ByDefinition(t *testing.T) {
	random := rand.New(rand.NewSource(1))
	rules, kinds := map[int]int{}, map[string]int{}
	for range 1500 {
		s := randomSetup(random)
		x := randomState(random, s)
		w := slow{s, x}
		for range 25 {
			a := randomAct(random, s)
			if lies := x.Balls[a.Player].At; among(a.Kind, "back, side") && random.Intn(2) == 0 {
				a.At = at(lies.X+random.Intn(5)-2, lies.Y+random.Intn(5)-2)
			}
			rule, e := play.Legal(s, x, a)
			gives(t, a.Kind, rule, e, w.rule(a))
			rules[rule]++
			next, e := play.Next(s, x, a)
			if rule != 0 {
				is(t, "the error of an act that is refused", e, api.ErrRule)
				is(t, "its result", next, play.State{})
				continue
			}
			kinds[a.Kind]++
			gives(t, a.Kind, next, e, w.after(a).x)
		}
		if t.Failed() {
			t.Fatalf("in the setup %v with the state %v", s, x)
		}
	}
	for rule := 0; rule <= 14; rule++ {
		is(t, fmt.Sprint("often enough broken: the rule ", rule), rules[rule] >= 10, true)
	}
	for _, kind := range allKinds {
		is(t, "often enough legal: "+kind, kinds[kind] >= 20, true)
	}
}
