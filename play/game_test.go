package play_test

import (
	"math/rand"
	"slices"
	"strings"
	"testing"

	"niblick/api"
	"niblick/course"
	"niblick/play"
)

// turned checks the player in turn, or that there is none.
func turned(t *testing.T, name string, s play.Setup, x play.State, want int) {
	t.Helper()
	for _, s.Strict = range []bool{false, true} {
		player, e := play.Turn(s, x)
		if want < 0 {
			is(t, name+": the error", e, api.ErrOver)
			is(t, name+": its result", player, 0)
			continue
		}
		gives(t, name, player, e, want)
	}
}

func TestP4_3Turn(t *testing.T) {
	s := links()
	done, doubt := inPhase(ball(0, 0), "done"), inPhase(ball(0, 0), "doubt")
	unplayed := with(ball(100, 0), func(b *play.Ball) { b.Strokes, b.Penalty = 0, 2 })
	for _, c := range []struct {
		name  string
		balls []play.Ball
		want  int
	}{
		{"at the beginning", nil, 0},
		{"the first one without a stroke", []play.Ball{ball(0, 0), ball(-10, 0), unplayed}, 2},
		{"without a stroke, in doubt", []play.Ball{ball(10, 0), ball(20, 0), inPhase(unplayed, "doubt"), ball(5, 0)}, 3},
		{"without a stroke, lifted", []play.Ball{ball(10, 0), ball(20, 0), inPhase(unplayed, "lifted"), ball(5, 0)}, 2},
		{"without a stroke, done", []play.Ball{ball(10, 0), ball(20, 0), inPhase(unplayed, "done"), ball(5, 0)}, 3},
		{"the farthest one", []play.Ball{ball(40, 0), ball(30, 0), ball(20, 0), ball(50, 0)}, 2},
		{"the farthest one is lifted", []play.Ball{ball(40, 0), inPhase(ball(10, 0), "lifted"), ball(20, 0), ball(50, 0)}, 1},
		{"the first of several", []play.Ball{ball(110, 0), ball(100, 10), ball(90, 0), ball(106, 8)}, 0},
		{"the second of several", []play.Ball{ball(100, 9), ball(100, 10), ball(90, 0), ball(106, 8)}, 1},
		{"behind the cup", []play.Ball{ball(97, 0), ball(105, 0), ball(100, 4), ball(103, 3)}, 1},
		{"the ones that are done", []play.Ball{done, ball(100, 1), done, ball(100, 2)}, 3},
		{"the ones in doubt", []play.Ball{doubt, ball(100, 1), doubt, doubt}, 1},
		{"in the cup", []play.Ball{done, ball(100, 0), done, doubt}, 1},
		{"nobody", []play.Ball{done, doubt, doubt, done}, -1},
		{"all are done", slices.Repeat([]play.Ball{done}, 4), -1},
	} {
		turned(t, c.name, s, state(s, c.balls...), c.want)
	}
	strict := pond()
	strict.Strict = true
	turned(t, "who has made no stroke yet", strict, behind(t, strict, act(0, "stroke", 10, 0)), 1)
}

func TestP4_3Lies(t *testing.T) {
	s := links()
	s.Hole.Areas = append(s.Hole.Areas, course.Area{Kind: "rough", Corners: box(-50, -50, 150, 50)}, course.Area{Kind: "tee", Corners: box(-2, -2, 2, 2)})
	for _, c := range []struct {
		balls []play.Ball
		want  string
	}{
		{nil, "tee tee tee tee"},
		{[]play.Ball{ball(90, 0), wet(60, 10, "40", "0"), ball(70, 0), ball(3, 0)}, "green water bunker fairway"},
		{[]play.Ball{ball(150, 50), inPhase(ball(100, 0), "done"), inPhase(ball(80, 5), "doubt"), inPhase(wet(40, 0, "0", "0"), "lifted")}, "rough green bunker water"},
	} {
		lies, e := play.Lies(s, state(s, c.balls...))
		gives(t, "Lies", lies, e, strings.Fields(c.want))
	}
	lies, e := play.Lies(pond(), behind(t, pond(), act(1, "stroke", 100, 0)))
	gives(t, "a holed ball", lies, e, []string{"fairway", "green"})
}

func TestP4_3Reference(t *testing.T) {
	for _, c := range []struct {
		name string
		b    play.Ball
		want api.Point
	}{
		{"on land", ball(-7, 19), point("-7", "19")},
		{"in the green", ball(100, 0), point("100", "0")},
		{"in the water", wet(50, 0, "81/2", "-1/3"), point("81/2", "-1/3")},
		{"in the water, without an Edge", wet(60, 10, "0", "0"), none},
		{"in the water, with a long Edge", wet(50, 0, "-"+most, "1/"+most), point("-"+most, "1/"+most)},
	} {
		x := state(pond(), ball(1, 1), c.b)
		p, e := play.Reference(pond(), x, 1)
		gives(t, c.name, p, e, c.want)
		p, e = play.Reference(pond(), x, 0)
		gives(t, "the other player", p, e, point("1", "1"))
		for _, phase := range []string{"doubt", "lifted", "done"} {
			p, e := play.Reference(pond(), state(pond(), ball(1, 1), inPhase(c.b, phase)), 1)
			is(t, c.name+" in the phase "+phase, e, api.ErrState)
			is(t, "its result", p, api.Point{})
		}
	}
	for _, player := range []int{-1, 2, 4} {
		_, e := play.Reference(pond(), state(pond()), player)
		is(t, "an unknown player", e, api.ErrUnknown)
	}
}

func TestP4_3Options(t *testing.T) {
	full := func(b play.Ball, strokes, penalty, spares int) play.Ball {
		b.Strokes, b.Penalty, b.Spares = strokes, penalty, spares
		return b
	}
	doubt := inPhase(ball(20, 0), "doubt")
	for _, c := range []struct {
		name string
		b    play.Ball
		want string
	}{
		{"at the tee", full(ball(0, 0), 0, 0, 0), "doubt pick stroke wrong"},
		{"in the fairway", ball(20, 0), "again back concede doubt pick side stroke wrong"},
		{"in the water", wet(50, 0, "40", "0"), "again back concede doubt pick side stroke wrong"},
		{"in the green", ball(95, 0), "again back concede doubt mark pick side stroke wrong"},
		{"beside another ball", ball(34, 3), "again back concede doubt mark pick side stroke wrong"},
		{"in doubt", doubt, "found lost pick provisional"},
		{"with a provisional ball in the cup", with(doubt, func(b *play.Ball) { b.Spares, b.Spare = 1, at(100, 0) }), "found lost pick"},
		{"lifted", inPhase(ball(95, 0), "lifted"), "pick replace"},
		{"done", inPhase(ball(95, 0), "done"), ""},
		{"behind 97 strokes", full(ball(20, 0), 50, 47, 0), "again back concede doubt pick side stroke wrong"},
		{"behind 98 strokes", full(ball(20, 0), 50, 47, 1), "again back concede doubt pick side stroke"},
		{"behind 99 strokes", full(ball(95, 0), 50, 47, 2), "mark pick"},
		{"in doubt behind 98 strokes", full(doubt, 98, 0, 0), "found lost pick provisional"},
		{"in doubt behind 99 strokes", full(doubt, 98, 1, 0), "found pick"},
		{"in doubt behind 99 strokes with a provisional ball", full(doubt, 48, 1, 50), "found pick"},
		{"lifted behind 99 strokes", full(inPhase(ball(20, 0), "lifted"), 99, 0, 0), "pick replace"},
	} {
		options, e := play.Options(pond(), state(pond(), c.b, ball(33, 3)), 0)
		gives(t, c.name, options, e, strings.Fields(c.want))
	}
	s := pond()
	s.Strict = true
	for player, want := range []string{"again back concede pick side wrong", "doubt pick stroke wrong"} {
		options, e := play.Options(s, behind(t, s, act(0, "stroke", 10, 0)), player)
		gives(t, "in a strict order", options, e, strings.Fields(want))
	}
	for _, player := range []int{-1, 2} {
		options, e := play.Options(pond(), state(pond()), player)
		is(t, "an unknown player", e, api.ErrUnknown)
		is(t, "its result", options, nil)
	}
}

func TestP4_3ByDefinition(t *testing.T) {
	random := rand.New(rand.NewSource(2))
	for range 3000 {
		s := randomSetup(random)
		x := randomState(random, s)
		w := slow{s, x}
		turned(t, "Turn", s, x, w.turn())
		lies, e := play.Lies(s, x)
		is(t, "the error of Lies", e, api.OK)
		for player, b := range x.Balls {
			is(t, "a lie", lies[player], w.lie(b.At))
			options, e := play.Options(s, x, player)
			gives(t, "Options", options, e, w.options(player))
			p, e := play.Reference(s, x, player)
			if b.Phase != "play" {
				is(t, "the error of Reference", e, api.ErrState)
				continue
			}
			gives(t, "Reference", p, e, w.reference(b).point())
		}
		if t.Failed() {
			t.Fatalf("in the setup %v with the state %v", s, x)
		}
	}
}
