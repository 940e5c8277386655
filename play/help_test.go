package play_test

import (
	"math/rand"
	"reflect"
	"slices"
	"strings"
	"testing"

	"niblick/api"
	"niblick/course"
	"niblick/play"
)

// same compares values; nil and empty lists are equal.
func same(a, b reflect.Value) bool {
	switch a.Kind() {
	case reflect.Slice:
		if a.Len() != b.Len() {
			return false
		}
		for i := range a.Len() {
			if !same(a.Index(i), b.Index(i)) {
				return false
			}
		}
		return true
	case reflect.Struct:
		for i := range a.NumField() {
			if !same(a.Field(i), b.Field(i)) {
				return false
			}
		}
		return true
	case reflect.Interface:
		return same(a.Elem(), b.Elem())
	}
	return a.Equal(b)
}

// alike reports whether two values of one type are equal.
func alike[T any](a, b T) bool {
	return same(reflect.ValueOf(&a).Elem(), reflect.ValueOf(&b).Elem())
}

// is compares a result with what the document requires.
func is[T any](t *testing.T, what string, got, want T) {
	t.Helper()
	if !alike(got, want) {
		t.Errorf("%s: got %v, want %v", what, got, want)
	}
}

// gives checks a result without an error.
func gives[T any](t *testing.T, what string, got T, e api.Errno, want T) {
	t.Helper()
	if e != api.OK || !alike(got, want) {
		t.Errorf("%s: got %v and the error %d, want %v", what, got, e, want)
	}
}

func at(x, y int) api.Place { return api.Place{X: x, Y: y} }

func point(x, y api.Rat) api.Point { return api.Point{X: x, Y: y} }

// none is the Edge of a ball that does not lie in the water.
var none = point("0", "0")

// box returns the corners of a rectangle.
func box(a, b, c, d int) []api.Place {
	return []api.Place{at(a, b), at(c, b), at(c, d), at(a, d)}
}

// pond returns the setup of the chapter's examples.
func pond() play.Setup {
	return play.Setup{Players: 2, Club: 2, Hole: course.Hole{Name: "H", Cup: at(100, 0), Areas: []course.Area{
		{Kind: "green", Corners: box(90, -10, 110, 10)},
		{Kind: "water", Corners: box(40, -10, 60, 10)},
		{Kind: "fairway", Corners: box(-10, -20, 120, 20)},
	}}}
}

// links returns a setup with four players and a bunker.
func links() play.Setup {
	s := pond()
	s.Players = 4
	s.Hole.Areas = append(s.Hole.Areas, course.Area{Kind: "bunker", Corners: box(70, -5, 80, 5)})
	return s
}

func act(player int, kind string, x, y int) play.Act {
	return play.Act{Player: player, Kind: kind, At: at(x, y)}
}

// do returns an act without a place.
func do(player int, kind string) play.Act {
	return play.Act{Player: player, Kind: kind}
}

// ball returns a ball that lies in play, where one stroke brought it from the tee.
func ball(x, y int) play.Ball {
	return play.Ball{Phase: "play", At: at(x, y), Edge: none, Strokes: 1}
}

// wet returns a ball that lies in the water.
func wet(x, y int, edgeX, edgeY api.Rat) play.Ball {
	b := ball(x, y)
	b.Edge = point(edgeX, edgeY)
	return b
}

// with returns a ball that has been changed.
func with(b play.Ball, change func(b *play.Ball)) play.Ball {
	change(&b)
	return b
}

// inPhase returns a ball in another phase; done balls have been picked up.
func inPhase(b play.Ball, phase string) play.Ball {
	b.Phase = phase
	if phase == "done" {
		b.End = "picked"
	}
	return b
}

// state returns a state with these balls, and further ones at the tee, as many as there are players.
func state(s play.Setup, balls ...play.Ball) play.State {
	x, _ := play.Start(s)
	copy(x.Balls, balls)
	return x
}

// behind returns the state behind legal acts.
func behind(t *testing.T, s play.Setup, acts ...play.Act) play.State {
	t.Helper()
	x, e := play.Start(s)
	is(t, "Start", e, api.OK)
	for _, a := range acts {
		x, e = play.Next(s, x, a)
		if e != api.OK {
			t.Errorf("%v is refused with the error %d", a, e)
		}
	}
	return x
}

// items returns a log of acts.
func items(acts ...play.Act) []play.Item {
	var l []play.Item
	for _, a := range acts {
		l = append(l, play.Item{Act: a})
	}
	return l
}

// ruling returns a ruling that an act stands in the place of an item.
func ruling(number int, a play.Act) play.Item {
	return play.Item{Replaces: number, Act: a}
}

// void returns a ruling that nothing stands in the place of an item.
func void(number int) play.Item {
	return play.Item{Replaces: number, Void: true}
}

// allKinds are the kinds of acts in ascending order.
var allKinds = strings.Fields("again back concede doubt found lost mark pick provisional replace side stroke wrong")

// placed are the kinds that need a place.
var placed = strings.Fields("stroke provisional found back side")

// question is what the functions are asked.
type question struct {
	s      play.Setup
	x      play.State
	l      []play.Item
	a      play.Act
	player int
	number int
}

// answer is what a function returned; uses are the arguments (state x, log l, act a, player p, number n) that it has beside the setup.
type answer struct {
	name, uses string
	values     []any
	e          api.Errno
}

// answers asks all functions.
func answers(q question) []answer {
	var all []answer
	add := func(name, uses string) func(x any, e api.Errno) {
		return func(x any, e api.Errno) { all = append(all, answer{name, uses, []any{x}, e}) }
	}
	check := func(name, uses string, e api.Errno) { all = append(all, answer{name, uses, nil, e}) }
	check("CheckSetup", "", play.CheckSetup(q.s))
	check("CheckState", "x", play.CheckState(q.s, q.x))
	check("CheckAct", "a", play.CheckAct(q.s, q.a))
	check("CheckLog", "l", play.CheckLog(q.s, q.l))
	start, e := play.Start(q.s)
	add("Start", "")(start, e)
	legal, e := play.Legal(q.s, q.x, q.a)
	add("Legal", "xa")(legal, e)
	next, e := play.Next(q.s, q.x, q.a)
	add("Next", "xa")(next, e)
	turn, e := play.Turn(q.s, q.x)
	add("Turn", "x")(turn, e)
	lies, e := play.Lies(q.s, q.x)
	add("Lies", "x")(lies, e)
	reference, e := play.Reference(q.s, q.x, q.player)
	add("Reference", "xp")(reference, e)
	options, e := play.Options(q.s, q.x, q.player)
	add("Options", "xp")(options, e)
	acts, numbers, e := play.InForce(q.s, q.l)
	all = append(all, answer{"InForce", "l", []any{acts, numbers}, e})
	end, aside, e := play.Replay(q.s, q.l)
	all = append(all, answer{"Replay", "l", []any{end, aside}, e})
	running, e := play.Running(q.s, q.l, q.player)
	add("Running", "lp")(running, e)
	entries, e := play.Entries(q.s, q.x)
	add("Entries", "x")(entries, e)
	corrected, e := play.Correct(q.s, q.l, q.number, q.a)
	add("Correct", "lan")(corrected, e)
	cancelled, e := play.Cancel(q.s, q.l, q.number)
	add("Cancel", "ln")(cancelled, e)
	changed, e := play.Changed(q.s, q.l, q.number, q.a)
	add("Changed", "lan")(changed, e)
	return all
}

// fresh returns a question that all functions answer without an error.
func fresh() question {
	s := pond()
	stroke := act(0, "stroke", 30, 5)
	return question{
		s: s,
		x: state(s, with(ball(20, 0), func(b *play.Ball) { b.Strokes, b.Penalty, b.Spares = 33, 33, 32 })),
		l: append(items(stroke, do(1, "pick")), ruling(1, stroke), void(2)),
		a: stroke, player: 1, number: 2,
	}
}

// answered checks the errors of all answers, and that each result beside one is the zero value.
func answered(t *testing.T, what string, q question, want func(a answer) api.Errno) {
	t.Helper()
	for _, a := range answers(q) {
		if e := want(a); a.e != e {
			t.Errorf("%s: %s has the error %d, want %d", what, a.name, a.e, e)
		}
		for _, x := range a.values {
			if v := reflect.ValueOf(x); a.e != api.OK && !v.IsZero() && (v.Kind() != reflect.Slice || v.Len() > 0) {
				t.Errorf("%s: %s has the result %v beside an error", what, a.name, x)
			}
		}
	}
}

// flaw spoils an argument (s for the setup) of a question that is right.
type flaw struct {
	of    string
	name  string
	spoil func(q *question)
	want  api.Errno
}

// inOrder checks that each flaw has its error in all functions with this argument, and that of two flaws the one that is named first decides.
func inOrder(t *testing.T, flaws ...flaw) {
	t.Helper()
	expect := func(what string, q question, spoiled ...flaw) {
		t.Helper()
		answered(t, what, q, func(a answer) api.Errno {
			for _, f := range spoiled {
				if f.of == "s" || strings.Contains(a.uses, f.of) {
					return f.want
				}
			}
			return api.OK
		})
	}
	for i, f := range flaws {
		q := fresh()
		f.spoil(&q)
		expect(f.name, q, f)
		for _, later := range flaws[i+1:] {
			q := fresh()
			later.spoil(&q)
			f.spoil(&q)
			expect(f.name+" and "+later.name, q, f, later)
		}
	}
}

// copied returns a question that shares nothing with another one.
func copied(q question) question {
	q.s.Hole.Line, q.s.Hole.Areas = slices.Clone(q.s.Hole.Line), slices.Clone(q.s.Hole.Areas)
	for i := range q.s.Hole.Areas {
		q.s.Hole.Areas[i].Corners = slices.Clone(q.s.Hole.Areas[i].Corners)
	}
	q.x.Balls, q.l = slices.Clone(q.x.Balls), slices.Clone(q.l)
	return q
}

// reach is how far from 0, 0 the places of random setups are.
const reach = 6

func randomPlace(random *rand.Rand) api.Place {
	return at(random.Intn(2*reach+1)-reach, random.Intn(2*reach+1)-reach)
}

// randomSetup returns a setup with rectangles and triangles, many of them water or bunkers.
func randomSetup(random *rand.Rand) play.Setup {
	kinds := []string{"water", "water", "bunker", "bunker", "rough", "fairway"}
	for {
		s := play.Setup{Players: 1 + random.Intn(4), Club: 1 + random.Intn(3), Strict: random.Intn(2) == 0}
		s.Hole = course.Hole{Name: "random", Tee: randomPlace(random), Cup: randomPlace(random)}
		add := func(kind string, corners []api.Place) {
			s.Hole.Areas = append(s.Hole.Areas, course.Area{Kind: kind, Corners: corners})
		}
		c := s.Hole.Cup
		add("green", box(c.X-random.Intn(2), c.Y, c.X+1, c.Y+1))
		for range 2 + random.Intn(3) {
			a, b := randomPlace(random), randomPlace(random)
			corners := []api.Place{a, b, randomPlace(random)}
			if random.Intn(2) == 0 {
				corners = box(a.X, a.Y, b.X, b.Y)
			}
			add(kinds[random.Intn(len(kinds))], corners)
		}
		if random.Intn(4) > 0 {
			add("rough", box(-reach, -reach, reach, reach))
		}
		if play.CheckSetup(s) == api.OK {
			return s
		}
	}
}

// randomBall returns a ball that is often in the water, and with which much has often happened.
func randomBall(random *rand.Rand, s play.Setup) play.Ball {
	place := func() api.Place {
		if random.Intn(5) == 0 {
			return s.Hole.Cup
		}
		return randomPlace(random)
	}
	phases := []string{"play", "play", "play", "play", "doubt", "doubt", "doubt", "lifted", "done"}
	edges := []api.Rat{"0", "1/3", "-7/2", "2", "5/6"}
	for {
		b := play.Ball{Phase: phases[random.Intn(len(phases))], At: place(), From: place(), Spare: place(), Edge: none}
		if b.Phase == "done" {
			b.End = []string{"holed", "conceded", "picked"}[random.Intn(3)]
		}
		if random.Intn(3) == 0 {
			b.From = b.At
		}
		if random.Intn(3) == 0 {
			b.Spare = b.At
		}
		if random.Intn(4) > 0 {
			b.Strokes, b.Penalty, b.Spares = random.Intn(4), random.Intn(3), random.Intn(3)
		}
		if random.Intn(3) == 0 {
			b.Penalty = 99 - b.Strokes - b.Spares - random.Intn(3)
		}
		if lie, _, _ := course.Locate(s.Hole, b.At); lie == "water" {
			b.Edge = point(edges[random.Intn(len(edges))], edges[random.Intn(len(edges))])
		}
		one := s
		one.Players = 1
		if play.CheckState(one, play.State{Balls: []play.Ball{b}}) == api.OK {
			return b
		}
	}
}

func randomState(random *rand.Rand, s play.Setup) play.State {
	var x play.State
	for range s.Players {
		x.Balls = append(x.Balls, randomBall(random, s))
	}
	return x
}

func randomAct(random *rand.Rand, s play.Setup) play.Act {
	a := play.Act{Player: random.Intn(s.Players), Kind: allKinds[random.Intn(len(allKinds))]}
	if slices.Contains(placed, a.Kind) {
		a.At = randomPlace(random)
		if random.Intn(6) == 0 {
			a.At = s.Hole.Cup
		}
	}
	return a
}

// randomLog returns a log of acts and rulings, not all of which count; most acts are strokes and what follows from them.
func randomLog(random *rand.Rand, s play.Setup, length int) []play.Item {
	often := strings.Fields("stroke stroke stroke doubt provisional found lost")
	var l []play.Item
	for range length {
		item := play.Item{Act: randomAct(random, s)}
		if random.Intn(2) == 0 {
			item.Act = play.Act{Player: item.Act.Player, Kind: often[random.Intn(len(often))]}
			if slices.Contains(placed, item.Act.Kind) {
				item.Act.At = randomPlace(random)
			}
		}
		switch random.Intn(8) {
		case 0:
			item = void(1 + random.Intn(length))
		case 1, 2:
			item.Replaces = 1 + random.Intn(length)
		}
		l = append(l, item)
	}
	return l
}
