package play_test

import (
	"math/rand"
	"slices"
	"testing"

	"niblick/api"
	"niblick/play"
)

// The acts of the examples.
func exampleActs() []play.Act {
	return []play.Act{act(0, "stroke", 50, 0), act(0, "back", 30, 0), act(0, "stroke", 100, 0)}
}

// forced checks acts in force, and the numbers of their items.
func forced(t *testing.T, name string, l []play.Item, acts []play.Act, numbers ...int) {
	t.Helper()
	got, gotNumbers, e := play.InForce(pond(), l)
	gives(t, name, got, e, acts)
	gives(t, name+": numbers", gotNumbers, e, numbers)
}

func TestP4_4InForce(t *testing.T) {
	a, b, c, d := do(0, "pick"), do(1, "pick"), act(0, "stroke", 1, 1), act(1, "stroke", 2, 2)
	log := func(more ...play.Item) []play.Item { return slices.Concat(items(a, b), more) }
	acts := func(l ...play.Act) []play.Act { return l }
	forced(t, "no items", nil, nil)
	forced(t, "acts", log(), acts(a, b), 1, 2)
	forced(t, "a ruling", log(ruling(1, c)), acts(c, b), 1, 2)
	forced(t, "two rulings", log(ruling(2, c), ruling(1, d)), acts(d, c), 1, 2)
	forced(t, "the last one of several", log(ruling(1, c), ruling(1, d)), acts(d, b), 1, 2)
	forced(t, "a void", log(void(1)), acts(b), 2)
	forced(t, "all are void", log(void(2), void(1)), nil)
	forced(t, "a ruling behind a void", log(void(1), ruling(1, c)), acts(c, b), 1, 2)
	forced(t, "a void behind a ruling", log(ruling(1, c), void(1)), acts(b), 2)
	forced(t, "a void between rulings", log(ruling(2, c), void(2), ruling(2, d)), acts(a, d), 1, 2)
	forced(t, "an act behind a ruling", append(log(ruling(2, c)), items(d)...), acts(a, c, d), 1, 2, 4)
	forced(t, "a ruling about itself", log(ruling(3, c)), acts(a, b), 1, 2)
	forced(t, "a ruling about a ruling", log(ruling(1, c), ruling(3, d)), acts(c, b), 1, 2)
	forced(t, "a void of a ruling", log(ruling(1, c), void(3)), acts(c, b), 1, 2)
	forced(t, "a ruling about an act behind it", slices.Concat([]play.Item{ruling(2, c), void(3)}, items(a, b)), acts(a, b), 3, 4)
	forced(t, "a ruling about nothing", log(ruling(256, c), void(4)), acts(a, b), 1, 2)
	forced(t, "an act that is not legal", append(log(), items(a)...), acts(a, b, a), 1, 2, 3)
	full := items(slices.Repeat([]play.Act{a}, 255)...)
	forced(t, "256 items", append(full, ruling(255, c)), append(slices.Repeat([]play.Act{a}, 254), c), upTo(255)...)
}

func upTo(n int) []int {
	var l []int
	for i := range n {
		l = append(l, i+1)
	}
	return l
}

// replayed checks the state behind a log, and what was set aside.
func replayed(t *testing.T, name string, l []play.Item, want play.State, aside ...play.Refusal) {
	t.Helper()
	x, refusals, e := play.Replay(pond(), l)
	gives(t, name, x, e, want)
	gives(t, name+": set aside", refusals, e, aside)
}

func TestP4_4Replay(t *testing.T) {
	start := state(pond())
	replayed(t, "no items", nil, start)
	replayed(t, "rulings alone", []play.Item{void(1), ruling(1, do(0, "pick")), void(256)}, start, play.Refusal{Item: 1}, play.Refusal{Item: 2}, play.Refusal{Item: 3})
	replayed(t, "acts", items(exampleActs()...), behind(t, pond(), exampleActs()...))
	stroke, pick, lost := act(0, "stroke", 20, 0), do(0, "pick"), do(0, "lost")
	replayed(t, "an act that is not legal", items(lost, stroke, do(1, "again")), behind(t, pond(), stroke), play.Refusal{Item: 1, Rule: 4}, play.Refusal{Item: 3, Rule: 6})
	replayed(t, "all in their order", append([]play.Item{void(2)}, append(items(lost, pick, stroke), ruling(1, pick), void(9))...),
		behind(t, pond(), pick), play.Refusal{Item: 1}, play.Refusal{Item: 2, Rule: 4}, play.Refusal{Item: 4, Rule: 1}, play.Refusal{Item: 5}, play.Refusal{Item: 6})
	replayed(t, "the item of a ruling that is not legal", append(items(stroke, stroke), ruling(1, lost)), behind(t, pond(), stroke), play.Refusal{Item: 1, Rule: 4})
	replayed(t, "a ruling that does not count any more", append(items(stroke), ruling(1, lost), ruling(1, pick)), behind(t, pond(), pick))
	replayed(t, "a ruling that makes a later act legal", append(items(pick, stroke), void(1)), behind(t, pond(), stroke))
	replayed(t, "an act in the place of the first one", append(items(stroke, do(1, "pick"), do(0, "again")), ruling(1, do(0, "doubt"))),
		behind(t, pond(), do(0, "doubt"), do(1, "pick")), play.Refusal{Item: 3, Rule: 2})
	replayed(t, "another player", append(items(stroke, stroke), ruling(2, act(1, "stroke", 30, 0))), behind(t, pond(), stroke, act(1, "stroke", 30, 0)))
	long := items(slices.Repeat([]play.Act{stroke}, 256)...)
	var aside []play.Refusal
	for i := 99; i < 256; i++ {
		aside = append(aside, play.Refusal{Item: i + 1, Rule: 14})
	}
	replayed(t, "256 strokes", long, behind(t, pond(), slices.Repeat([]play.Act{stroke}, 99)...), aside...)
}

func TestP4_4Examples(t *testing.T) {
	log := items(exampleActs()...)
	for _, c := range []struct {
		place   api.Place
		strokes int
		aside   []play.Refusal
	}{
		{at(70, 0), 3, nil},
		{at(80, 5), 2, []play.Refusal{{Item: 2, Rule: 9}}},
	} {
		x, aside, e := play.Replay(pond(), append(log, ruling(1, act(0, "stroke", c.place.X, c.place.Y))))
		gives(t, "what is set aside", aside, e, c.aside)
		entries, e := play.Entries(pond(), x)
		gives(t, "entries", entries, e, []api.Entry{{Strokes: c.strokes}, {Mark: "-"}})
	}
}

func TestP4_4StrictOrder(t *testing.T) {
	s := pond()
	s.Strict = true
	x, aside, e := play.Replay(s, items(act(0, "stroke", 20, 0), act(0, "stroke", 30, 0), act(1, "stroke", 10, 0)))
	gives(t, "Replay", x, e, state(s, ball(20, 0), ball(10, 0)))
	is(t, "set aside", aside, []play.Refusal{{Item: 2, Rule: 3}})
}

func TestP4_4Running(t *testing.T) {
	running := func(name string, l []play.Item, player int, want ...int) {
		t.Helper()
		scores, e := play.Running(pond(), l, player)
		gives(t, name, scores, e, want)
	}
	log := items(act(0, "stroke", 130, 0), act(1, "stroke", 20, 0), do(0, "doubt"), act(0, "provisional", 80, 0), do(0, "replace"), do(0, "lost"), do(0, "wrong"))
	running("no items", nil, 0)
	running("the first player", log, 0, 2, 2, 3, 3, 3, 5, 7)
	running("the second player", log, 1, 0, 1, 1, 1, 1, 1, 1)
	running("behind a void", append(log, void(1), void(9)), 0, 0, 1, 1, 1, 3, 5)
	running("behind a ruling", append(log, ruling(1, do(0, "pick"))), 0, 0, 0, 0, 0, 0, 0, 0)
	for _, player := range []int{-1, 2} {
		scores, e := play.Running(pond(), log, player)
		is(t, "an unknown player", e, api.ErrUnknown)
		is(t, "its result", scores, nil)
	}
}

func TestP4_4ByDefinition(t *testing.T) {
	random := rand.New(rand.NewSource(3))
	set, rulings := 0, 0
	for range 1500 {
		s := randomSetup(random)
		l := randomLog(random, s, random.Intn(25))
		player := random.Intn(s.Players)
		start, _ := play.Start(s)
		w, aside, scores := slow{s, start}.replay(l, player)
		x, refusals, e := play.Replay(s, l)
		gives(t, "Replay", x, e, w.x)
		gives(t, "set aside", refusals, e, aside)
		running, e := play.Running(s, l, player)
		gives(t, "Running", running, e, scores)
		acts, numbers, e := play.InForce(s, l)
		is(t, "the error of InForce", e, api.OK)
		var in []play.Act
		var of []int
		for i, item := range l {
			if a, stands := standing(l, i+1); stands && item.Replaces == 0 {
				in, of = append(in, a), append(of, i+1)
			}
		}
		is(t, "InForce", acts, in)
		is(t, "its numbers", numbers, of)
		for _, r := range refusals {
			if set++; r.Rule == 0 {
				rulings++
			}
		}
		if t.Failed() {
			t.Fatalf("in the setup %v with the log %v", s, l)
		}
	}
	is(t, "often enough set aside", set > 1000 && rulings > 100, true)
}

func TestP4_5Entries(t *testing.T) {
	s := links()
	played := with(ball(95, 0), func(b *play.Ball) { b.Strokes, b.Penalty, b.Spares = 4, 2, 3 })
	ended := func(end string) play.Ball {
		return with(played, func(b *play.Ball) { b.Phase, b.End = "done", end })
	}
	for _, c := range []struct {
		balls []play.Ball
		want  []api.Entry
	}{
		{nil, []api.Entry{{Mark: "-"}, {Mark: "-"}, {Mark: "-"}, {Mark: "-"}}},
		{[]play.Ball{played, ended("holed"), ended("conceded"), ended("picked")}, []api.Entry{{Mark: "-"}, {Strokes: 6}, {Strokes: 6, Mark: "c"}, {Mark: "x"}}},
		{[]play.Ball{inPhase(played, "doubt"), inPhase(played, "lifted"), ended("picked"), ended("holed")}, []api.Entry{{Mark: "-"}, {Mark: "-"}, {Mark: "x"}, {Strokes: 6}}},
	} {
		entries, e := play.Entries(s, state(s, c.balls...))
		gives(t, "Entries", entries, e, c.want)
	}
	entries, e := play.Entries(pond(), behind(t, pond(), append(exampleActs(), do(1, "pick"))...))
	gives(t, "the example", entries, e, []api.Entry{{Strokes: 3}, {Mark: "x"}})
}

func TestP4_5CorrectAndCancel(t *testing.T) {
	pick := do(1, "pick")
	log := append(items(exampleActs()...), ruling(1, pick))
	for number, want := range map[int]api.Errno{-1: api.ErrUnknown, 0: api.ErrUnknown, 1: api.OK, 2: api.OK, 3: api.OK, 4: api.ErrKind, 5: api.ErrUnknown, 257: api.ErrUnknown} {
		corrected, e := play.Correct(pond(), log, number, pick)
		cancelled, f := play.Cancel(pond(), log, number)
		_, g := play.Changed(pond(), log, number, pick)
		is(t, "errors", [3]api.Errno{e, f, g}, [3]api.Errno{want, want, want})
		if want == api.OK {
			is(t, "Correct", corrected, append(slices.Clone(log), ruling(number, pick)))
			is(t, "Cancel", cancelled, append(slices.Clone(log), void(number)))
			continue
		}
		is(t, "the result of Correct", corrected, nil)
		is(t, "the result of Cancel", cancelled, nil)
	}
	_, e := play.Cancel(pond(), nil, 1)
	is(t, "no items", e, api.ErrUnknown)
}

func TestP4_5FullLogs(t *testing.T) {
	stroke := act(0, "stroke", 20, 0)
	log := items(slices.Repeat([]play.Act{stroke}, 255)...)
	full, e := play.Correct(pond(), log, 255, stroke)
	gives(t, "the last item", full, e, append(slices.Clone(log), ruling(255, stroke)))
	for number, want := range map[int]api.Errno{0: api.ErrUnknown, 1: api.ErrMany, 256: api.ErrKind, 257: api.ErrUnknown} {
		_, e := play.Correct(pond(), full, number, stroke)
		_, f := play.Cancel(pond(), full, number)
		_, g := play.Changed(pond(), full, number, stroke)
		is(t, "errors", [3]api.Errno{e, f, g}, [3]api.Errno{want, want, want})
	}
}

func TestP4_5Changed(t *testing.T) {
	log := append(items(exampleActs()...), items(act(1, "stroke", 100, 0))...)
	for _, c := range []struct {
		name   string
		number int
		a      play.Act
		want   []int
	}{
		{"another place that changes nothing", 1, act(0, "stroke", 70, 0), nil},
		{"another place that changes strokes", 1, act(0, "stroke", 80, 5), []int{0}},
		{"another mark", 3, do(0, "concede"), []int{0}},
		{"no end", 4, act(1, "stroke", 99, 0), []int{1}},
		{"another player", 3, do(1, "pick"), []int{0, 1}},
		{"the same act", 3, act(0, "stroke", 100, 0), nil},
		{"an act that is refused", 2, do(0, "lost"), []int{0}},
	} {
		players, e := play.Changed(pond(), log, c.number, c.a)
		gives(t, c.name, players, e, c.want)
	}
	s := links()
	four := items(do(0, "pick"), act(1, "stroke", 100, 0), act(2, "stroke", 100, 0), act(3, "stroke", 100, 0))
	players, e := play.Changed(s, four, 1, do(3, "pick"))
	gives(t, "the first and the last player", players, e, []int{0, 3})
	s.Strict = true
	players, e = play.Changed(s, four, 1, do(0, "wrong"))
	gives(t, "all who come behind it", players, e, []int{0, 1, 2, 3})
}

func TestP4_5ByDefinition(t *testing.T) {
	random := rand.New(rand.NewSource(4))
	changes := 0
	for range 2000 {
		s := randomSetup(random)
		l := randomLog(random, s, 1+random.Intn(20))
		start, _ := play.Start(s)
		before, _, _ := slow{s, start}.replay(l, 0)
		entries, e := play.Entries(s, before.x)
		gives(t, "Entries", entries, e, before.entries())
		number, a := 1+random.Intn(len(l)), randomAct(random, s)
		players, e := play.Changed(s, l, number, a)
		if l[number-1].Replaces != 0 {
			is(t, "the error of a ruling", e, api.ErrKind)
			continue
		}
		corrected := append(slices.Clone(l), ruling(number, a))
		after, _, _ := slow{s, start}.replay(corrected, 0)
		var want []int
		for player, entry := range after.entries() {
			if entry != before.entries()[player] {
				want = append(want, player)
			}
		}
		gives(t, "Changed", players, e, want)
		changes += len(want)
	}
	is(t, "often enough changed", changes > 100, true)
}
