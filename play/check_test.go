package play_test

import (
	"math"
	"slices"
	"strings"
	"testing"

	"niblick/api"
	"niblick/play"
)

// most is the greatest integer that is a number.
var most = api.Rat(strings.Repeat("9", 600))

// errorsInOrder are flaws of all arguments, in the order in which these are looked at.
func errorsInOrder() []flaw {
	item := func(i int, change func(item *play.Item)) func(q *question) {
		return func(q *question) { change(&q.l[i]) }
	}
	ball := func(i int, change func(b *play.Ball)) func(q *question) {
		return func(q *question) { change(&q.x.Balls[i]) }
	}
	return []flaw{
		{"s", "a hole without a name", func(q *question) { q.s.Hole.Name = "" }, api.ErrName},
		{"s", "a cup in no green", func(q *question) { q.s.Hole.Cup = at(0, 0) }, api.ErrArea},
		{"s", "no players", func(q *question) { q.s.Players = 0 }, api.ErrRange},
		{"s", "no club", func(q *question) { q.s.Club = 0 }, api.ErrRange},
		{"x", "one ball", func(q *question) { q.x.Balls = q.x.Balls[:1] }, api.ErrShape},
		{"x", "a phase that is none", ball(0, func(b *play.Ball) { b.Phase = "Play" }), api.ErrKind},
		{"x", "a place far away", ball(0, func(b *play.Ball) { b.From.X = 1000001 }), api.ErrRange},
		{"x", "an Edge with too long an X", ball(0, func(b *play.Ball) { b.Edge.X = most + "0" }), api.ErrLarge},
		{"x", "an Edge with a Y that is no number", ball(0, func(b *play.Ball) { b.Edge.Y = "" }), api.ErrForm},
		{"x", "too many strokes", ball(0, func(b *play.Ball) { b.Strokes = 100 }), api.ErrRange},
		{"x", "a place that is out", ball(0, func(b *play.Ball) { b.Spare = at(0, 21) }), api.ErrArea},
		{"x", "an Edge on land", ball(0, func(b *play.Ball) { b.Edge.Y = "1" }), api.ErrForm},
		{"x", "an end of the second ball", ball(1, func(b *play.Ball) { b.End = "holed" }), api.ErrKind},
		{"l", "257 items", func(q *question) { q.l = append(q.l, make([]play.Item, 257-len(q.l))...) }, api.ErrMany},
		{"l", "a number below 0", item(0, func(item *play.Item) { item.Replaces = -1 }), api.ErrRange},
		{"l", "nothing that is void", item(0, func(item *play.Item) { item.Void = true }), api.ErrForm},
		{"l", "a player of an item", item(0, func(item *play.Item) { item.Act.Player = -1 }), api.ErrUnknown},
		{"l", "a kind of an item", item(0, func(item *play.Item) { item.Act.Kind = "putt" }), api.ErrKind},
		{"l", "a place of an item", item(0, func(item *play.Item) { item.Act.At.Y = -1000001 }), api.ErrRange},
		{"l", "a place that is not needed", item(1, func(item *play.Item) { item.Act.At.X = 1 }), api.ErrForm},
		{"l", "a player of a ruling", item(2, func(item *play.Item) { item.Act.Player = 2 }), api.ErrUnknown},
		{"l", "an act that is void", item(3, func(item *play.Item) { item.Act.Player = 1 }), api.ErrForm},
		{"a", "an unknown player", func(q *question) { q.a.Player = 2 }, api.ErrUnknown},
		{"a", "a kind that is none", func(q *question) { q.a.Kind = "" }, api.ErrKind},
		{"a", "a place that is none", func(q *question) { q.a.At.Y = 1000001 }, api.ErrRange},
		{"a", "a place without need", func(q *question) { q.a.Kind = "doubt" }, api.ErrForm},
		{"p", "no such player", func(q *question) { q.player = 2 }, api.ErrUnknown},
		{"n", "no such item", func(q *question) { q.number = 0 }, api.ErrUnknown},
		{"n", "a ruling", func(q *question) { q.number = 3 }, api.ErrKind},
		{"n", "256 items", func(q *question) {
			q.l = slices.Concat(q.l, items(slices.Repeat([]play.Act{do(0, "pick")}, 256-len(q.l))...))
		}, api.ErrMany},
	}
}

func TestP4_1ErrorsInOrder(t *testing.T) {
	answered(t, "a fresh question", fresh(), func(answer) api.Errno { return api.OK })
	inOrder(t, errorsInOrder()...)
}

func TestP4_1CheckSetup(t *testing.T) {
	for _, c := range []struct {
		name   string
		change func(s *play.Setup)
		want   api.Errno
	}{
		{"the setup of the examples", func(*play.Setup) {}, api.OK},
		{"one player", func(s *play.Setup) { s.Players = 1 }, api.OK},
		{"four players", func(s *play.Setup) { s.Players = 4 }, api.OK},
		{"five players", func(s *play.Setup) { s.Players = 5 }, api.ErrRange},
		{"fewer players than none", func(s *play.Setup) { s.Players = -1 }, api.ErrRange},
		{"the shortest club", func(s *play.Setup) { s.Club = 1 }, api.OK},
		{"the longest club", func(s *play.Setup) { s.Club = 1000 }, api.OK},
		{"too long a club", func(s *play.Setup) { s.Club = 1001 }, api.ErrRange},
		{"a club below 0", func(s *play.Setup) { s.Club = -1 }, api.ErrRange},
		{"a strict order", func(s *play.Setup) { s.Strict = true }, api.OK},
		{"a tee in the water", func(s *play.Setup) { s.Hole.Tee = at(50, 0) }, api.ErrArea},
		{"no polygon", func(s *play.Setup) { s.Hole.Areas[1].Corners = nil }, api.ErrShape},
		{"the zero value", func(s *play.Setup) { *s = play.Setup{} }, api.ErrName},
	} {
		s := pond()
		c.change(&s)
		is(t, c.name, play.CheckSetup(s), c.want)
	}
}

func TestP4_1CheckBalls(t *testing.T) {
	in := func(phase, end string) func(b *play.Ball) {
		return func(b *play.Ball) { b.Phase, b.End = phase, end }
	}
	for _, c := range []struct {
		name   string
		change func(b *play.Ball)
		want   api.Errno
	}{
		{"a ball in doubt", in("doubt", ""), api.OK},
		{"a lifted ball", in("lifted", ""), api.OK},
		{"a ball that is holed", in("done", "holed"), api.OK},
		{"a ball that is conceded", in("done", "conceded"), api.OK},
		{"a ball that is picked up", in("done", "picked"), api.OK},
		{"a done ball without an end", in("done", ""), api.ErrKind},
		{"an end that is none", in("done", "pick"), api.ErrKind},
		{"an end in play", in("play", "picked"), api.ErrKind},
		{"an end in doubt", in("doubt", "holed"), api.ErrKind},
		{"the end of a lifted ball", in("lifted", "conceded"), api.ErrKind},
		{"no phase", in("", ""), api.ErrKind},
		{"an end as a phase", in("holed", "holed"), api.ErrKind},
		{"the zero value", func(b *play.Ball) { *b = play.Ball{} }, api.ErrKind},
		{"At too far", func(b *play.Ball) { b.At.Y = 1000001 }, api.ErrRange},
		{"At farther", func(b *play.Ball) { b.At.X = math.MinInt }, api.ErrRange},
		{"From too far", func(b *play.Ball) { b.From.Y = -1000001 }, api.ErrRange},
		{"Spare too far", func(b *play.Ball) { b.Spare.X = -1000001 }, api.ErrRange},
		{"the farthest places", func(b *play.Ball) { b.At = at(-1000000, 1000000) }, api.ErrArea},
		{"At out", func(b *play.Ball) { b.At = at(-11, 0) }, api.ErrArea},
		{"From out", func(b *play.Ball) { b.From = at(0, -21) }, api.ErrArea},
		{"Spare out", func(b *play.Ball) { b.Spare = at(121, 0) }, api.ErrArea},
		{"At in the last corner", func(b *play.Ball) { b.At = at(-10, -20) }, api.OK},
		{"From and Spare in the water", func(b *play.Ball) { b.From, b.Spare = at(50, 0), at(60, 10) }, api.OK},
		{"an Edge in the water", func(b *play.Ball) { *b = wet(50, 0, "81/2", "-1/3") }, api.OK},
		{"an Edge far from the water", func(b *play.Ball) { *b = wet(50, 0, "-"+most, "1/"+most) }, api.OK},
		{"no Edge in the water", func(b *play.Ball) { *b = wet(50, 0, "0", "0") }, api.OK},
		{"an Edge on land", func(b *play.Ball) { b.Edge.X = "-1" }, api.ErrForm},
		{"an Edge on the ground of a done ball", func(b *play.Ball) { b.Phase, b.End, b.Edge.Y = "done", "picked", "1/2" }, api.ErrForm},
		{"an Edge that is empty", func(b *play.Ball) { b.Edge = api.Point{} }, api.ErrForm},
		{"an X that is not in lowest terms", func(b *play.Ball) { *b = wet(50, 0, "2/4", "0") }, api.ErrForm},
		{"a Y that is too large", func(b *play.Ball) { *b = wet(50, 0, "0", most+"0") }, api.ErrLarge},
		{"an X that is none before a large Y", func(b *play.Ball) { *b = wet(50, 0, "+1", most+"0") }, api.ErrForm},
		{"no strokes", func(b *play.Ball) { b.Strokes = 0 }, api.OK},
		{"99 strokes", func(b *play.Ball) { b.Strokes = 99 }, api.OK},
		{"99 penalty strokes", func(b *play.Ball) { b.Strokes, b.Penalty = 0, 99 }, api.OK},
		{"99 provisional strokes", func(b *play.Ball) { b.Strokes, b.Spares = 0, 99 }, api.OK},
		{"99 together", func(b *play.Ball) { b.Strokes, b.Penalty, b.Spares = 40, 30, 29 }, api.OK},
		{"100 together", func(b *play.Ball) { b.Strokes, b.Penalty, b.Spares = 40, 30, 30 }, api.ErrRange},
		{"100 of two", func(b *play.Ball) { b.Strokes, b.Penalty = 50, 50 }, api.ErrRange},
		{"100 penalty strokes", func(b *play.Ball) { b.Strokes, b.Penalty = 0, 100 }, api.ErrRange},
		{"100 provisional strokes", func(b *play.Ball) { b.Strokes, b.Spares = 0, 100 }, api.ErrRange},
		{"strokes below 0", func(b *play.Ball) { b.Strokes = -1 }, api.ErrRange},
		{"penalty strokes below 0", func(b *play.Ball) { b.Penalty = -1 }, api.ErrRange},
		{"provisional strokes below 0", func(b *play.Ball) { b.Spares = -1 }, api.ErrRange},
		{"sums that wrap around", func(b *play.Ball) { b.Strokes, b.Penalty, b.Spares = math.MaxInt, math.MaxInt, 2 }, api.ErrRange},
	} {
		for player := range 2 {
			x := state(pond(), ball(10, 0), ball(10, 0))
			c.change(&x.Balls[player])
			is(t, c.name, play.CheckState(pond(), x), c.want)
		}
	}
}

func TestP4_1CheckStateShapes(t *testing.T) {
	x := state(links())
	for players := 1; players <= 4; players++ {
		s := pond()
		s.Players = players
		for balls := range 5 {
			want := api.ErrShape
			if balls == players {
				want = api.OK
			}
			is(t, "balls", play.CheckState(s, play.State{Balls: x.Balls[:balls]}), want)
		}
	}
	is(t, "no balls but an unknown phase", play.CheckState(pond(), play.State{Balls: make([]play.Ball, 3)}), api.ErrShape)
}

func TestP4_1CheckAct(t *testing.T) {
	for _, kind := range allKinds {
		want := api.OK
		if !slices.Contains(placed, kind) {
			want = api.ErrForm
		}
		is(t, kind+" with no place", play.CheckAct(pond(), do(1, kind)), api.OK)
		is(t, kind+" with an X", play.CheckAct(pond(), act(1, kind, 1, 0)), want)
		is(t, kind+" with a Y", play.CheckAct(pond(), act(1, kind, 0, -1)), want)
		is(t, kind+" that is out", play.CheckAct(pond(), act(0, kind, -1000000, 1000000)), want)
		is(t, kind+" too far", play.CheckAct(pond(), act(0, kind, 1000001, 0)), api.ErrRange)
		is(t, kind+" too far down", play.CheckAct(pond(), act(0, kind, 0, -1000001)), api.ErrRange)
		is(t, kind+" of nobody", play.CheckAct(pond(), do(2, kind)), api.ErrUnknown)
		is(t, kind+" of less", play.CheckAct(pond(), do(-1, kind)), api.ErrUnknown)
		is(t, "a capital", play.CheckAct(pond(), do(0, strings.ToUpper(kind))), api.ErrKind)
		is(t, "a blank", play.CheckAct(pond(), do(0, kind+" ")), api.ErrKind)
	}
	is(t, "the zero value", play.CheckAct(pond(), play.Act{}), api.ErrKind)
}

func TestP4_1CheckLog(t *testing.T) {
	pick, stroke := do(0, "pick"), act(1, "stroke", 1000, 1000)
	for _, c := range []struct {
		name string
		l    []play.Item
		want api.Errno
	}{
		{"no items", nil, api.OK},
		{"acts", items(pick, stroke), api.OK},
		{"256 items", items(slices.Repeat([]play.Act{pick}, 256)...), api.OK},
		{"257 items", items(slices.Repeat([]play.Act{pick}, 257)...), api.ErrMany},
		{"a ruling about nothing", []play.Item{ruling(256, pick)}, api.OK},
		{"a void of nothing", []play.Item{void(1)}, api.OK},
		{"a number too large", []play.Item{ruling(257, pick)}, api.ErrRange},
		{"a number below 0", []play.Item{void(-1)}, api.ErrRange},
		{"a number that is much too large", []play.Item{void(math.MaxInt)}, api.ErrRange},
		{"void without a number", []play.Item{void(0)}, api.ErrForm},
		{"void with a player", []play.Item{{Replaces: 1, Void: true, Act: play.Act{Player: 1}}}, api.ErrForm},
		{"void with a kind", []play.Item{{Replaces: 1, Void: true, Act: pick}}, api.ErrForm},
		{"void with a place", []play.Item{{Replaces: 1, Void: true, Act: play.Act{At: at(0, 1)}}}, api.ErrForm},
		{"an act without a kind", []play.Item{{}}, api.ErrKind},
		{"a ruling without a kind", []play.Item{{Replaces: 1}}, api.ErrKind},
		{"a ruling with a place without need", []play.Item{ruling(1, act(0, "pick", 0, 1))}, api.ErrForm},
		{"the second item", []play.Item{{Act: pick}, {Act: do(2, "pick")}, void(0)}, api.ErrUnknown},
		{"the first of two", []play.Item{void(0), {Replaces: -1}}, api.ErrForm},
	} {
		is(t, c.name, play.CheckLog(pond(), c.l), c.want)
	}
}

func TestP4_1Start(t *testing.T) {
	for players := 1; players <= 4; players++ {
		s := pond()
		s.Players, s.Hole.Tee = players, at(-3, 7)
		x, e := play.Start(s)
		tee := play.Ball{Phase: "play", At: at(-3, 7), From: at(-3, 7), Edge: none, Spare: at(-3, 7)}
		gives(t, "Start", x, e, play.State{Balls: slices.Repeat([]play.Ball{tee}, players)})
	}
	s := pond()
	s.Hole.Tee = s.Hole.Cup
	x, e := play.Start(s)
	is(t, "error", e, api.OK)
	is(t, "a ball that begins in the cup", x.Balls[0].Phase, "play")
}
