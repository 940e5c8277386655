package event_test

import (
	"fmt"
	"math/rand"
	"slices"
	"testing"

	"niblick/api"
	"niblick/event"
)

func TestP7_6Examples(t *testing.T) {
	got, e := replay(sampleActs())
	gives(t, "the first acts", got, e, replayed{event.Standing{Lines: field("ann 70", "bob 74 cut"), Aside: []int{5}}, 0})
	got, e = replay(append(sampleActs(), acts("score bob 1 69")...))
	gives(t, "with a correction", got, e, replayed{event.Standing{Lines: field("ann 70 cut", "bob 69 68")}, 0})
}

// standing is what acts in words make: lines, and the places of those that are set aside.
type standing struct {
	name  string
	acts  string
	lines []event.Line
	aside []int
}

func stand(t *testing.T, l []standing) {
	t.Helper()
	for _, c := range l {
		got, e := replay(acts(c.acts))
		gives(t, c.name, got, e, replayed{event.Standing{Lines: c.lines, Aside: c.aside}, 0})
	}
}

func TestP7_6Replay(t *testing.T) {
	stand(t, []standing{
		{"nothing", "", nil, nil},
		{"players in the order in which they enter", "enter bob; enter ann 1; enter cat", field("bob", "ann*", "cat"), nil},
		{"a second entry", "enter ann; enter ann 1", field("ann"), []int{1}},
		{"a second entry of an amateur", "enter ann 1; enter ann", field("ann*"), []int{1}},
		{"acts before the entry", "score ann 1 70; out ann; dis ann; enter ann; score ann 1 71", field("ann 71"), []int{0, 1, 2}},
		{"acts of somebody who never enters", "enter ann; score bob 1 70; out bob", field("ann"), []int{1, 2}},
		{"a correction", "enter ann; score ann 1 70; score ann 1 71", field("ann 71"), nil},
		{"a correction of the first round behind the second one", "enter ann; score ann 1 70; score ann 2 72; score ann 1 75", field("ann 75 72"), nil},
		{"rounds in another order", "enter ann; score ann 3 73; score ann 1 71; score ann 2 72", field("ann 71 72 73"), nil},
		{"a round is missing", "enter ann; score ann 1 71; score ann 3 73; score ann 4 74", field("ann 71"), []int{2, 3}},
		{"only the last score of a round is set aside", "enter ann; score ann 2 71; score ann 2 72", field("ann"), []int{2}},
		{"eight rounds", "enter ann; score ann 1 1; score ann 2 2; score ann 3 3; score ann 4 4; score ann 5 5; score ann 6 6; score ann 7 7; score ann 8 9999", field("ann 1 2 3 4 5 6 7 9999"), nil},
		{"a score before the entry and one after it", "score ann 1 70; enter ann; score ann 1 72; score bob 1 60", field("ann 72"), []int{0, 3}},
	})
}

func TestP7_6Void(t *testing.T) {
	stand(t, []standing{
		{"a round", "enter ann; enter bob; score ann 1 70; score bob 1 71; void 1", field("ann", "bob"), []int{2, 3}},
		{"scores after it", "enter ann; score ann 1 70; void 1; score ann 1 72", field("ann 72"), []int{1}},
		{"corrected scores, too", "enter ann; score ann 1 70; score ann 1 71; void 1; score ann 1 72", field("ann 72"), []int{1, 2}},
		{"another round", "enter ann; score ann 1 70; score ann 2 71; void 2", field("ann 70"), []int{2}},
		{"the first round, and so the second one", "enter ann; score ann 1 70; score ann 2 71; void 1", field("ann"), []int{1, 2}},
		{"the first round, which is played again", "enter ann; score ann 1 70; score ann 2 71; void 1; score ann 1 75", field("ann 75 71"), []int{1}},
		{"twice", "enter ann; score ann 1 70; void 1; score ann 1 71; void 1; score ann 1 72", field("ann 72"), []int{1, 3}},
		{"nothing to make void", "void 1; enter ann; void 8; score ann 1 70", field("ann 70"), nil},
		{"a cut stays", "enter ann; enter bob; score ann 1 70; score bob 1 71; cut 1 1; void 1; score ann 1 75; score bob 1 74", field("ann 75 cut", "bob 74"), []int{2, 3}},
		{"a cut that loses its candidates", "enter ann; enter bob; score ann 1 70; score bob 1 71; cut 1 1; void 1", field("ann", "bob"), []int{2, 3}},
		{"out stays", "enter ann; score ann 1 70; out ann; void 1", field("ann out"), []int{1}},
		{"a score before the entry", "score ann 1 70; enter ann; void 1", field("ann"), []int{0}},
	})
}

func TestP7_6Cuts(t *testing.T) {
	three := "enter a; enter b; enter c; score a 1 70; score b 1 72; score c 1 74; "
	stand(t, []standing{
		{"two places", three + "cut 1 2", field("a 70", "b 72", "c 74 cut"), nil},
		{"the last cut after a round", three + "cut 1 1; cut 1 2", field("a 70", "b 72", "c 74 cut"), nil},
		{"the last one, of fewer places", three + "cut 1 3; cut 1 1", field("a 70", "b 72 cut", "c 74 cut"), nil},
		{"a tie at the last place", three + "cut 1 1; score c 1 70", field("a 70", "b 72 cut", "c 70"), nil},
		{"a cut before the scores", "cut 1 1; " + three, field("a 70", "b 72 cut", "c 74 cut"), nil},
		{"scores after a cut", three + "cut 1 2; score a 2 70; score c 2 70; score c 3 70", field("a 70 70", "b 72", "c 74 cut"), []int{8, 9}},
		{"a cut after each round", three + "cut 1 2; cut 2 1; score a 2 75; score b 2 70; score b 3 80; score a 3 60", field("a 70 75 cut", "b 72 70 80", "c 74 cut"), []int{11}},
		{"whoever lacks a score misses it", three + "cut 2 3; score a 2 70", field("a 70 70", "b 72 cut", "c 74 cut"), nil},
		{"whoever lacks all scores, too", "enter a; enter b; score a 1 70; cut 1 2", field("a 70", "b cut"), nil},
		{"lacking scores and a later one", three + "cut 2 3; score a 2 70; score b 3 70", field("a 70 70", "b 72 cut", "c 74 cut"), []int{8}},
		{"whoever enters after it", three + "cut 1 3; enter d", field("a 70", "b 72", "c 74", "d cut"), nil},
		{"whoever enters and scores after it", three + "cut 1 2; enter d; score d 1 60", field("a 70", "b 72 cut", "c 74 cut", "d 60"), nil},
		{"no candidates", three + "cut 2 1", field("a 70", "b 72", "c 74"), nil},
		{"no candidates, and a later cut", three + "cut 2 1; cut 1 1", field("a 70", "b 72 cut", "c 74 cut"), nil},
		{"the total of all rounds", three + "score a 2 80; score b 2 70; score c 2 70; cut 2 1", field("a 70 80 cut", "b 72 70", "c 74 70 cut"), nil},
		{"200 places", three + "cut 1 200", field("a 70", "b 72", "c 74"), nil},
		{"after the last round", "enter a; score a 1 1; score a 2 1; score a 3 1; score a 4 1; score a 5 1; score a 6 1; score a 7 1; score a 8 1; enter b; score b 1 1; cut 8 1", field("a 1 1 1 1 1 1 1 1", "b 1 cut"), nil},
		{"somebody who has missed it is no candidate later", three + "cut 1 2; score a 2 90; score b 2 90; cut 2 2", field("a 70 90", "b 72 90", "c 74 cut"), nil},
	})
}

func TestP7_6States(t *testing.T) {
	two := "enter a; enter b; score a 1 70; score b 1 72; "
	stand(t, []standing{
		{"out", two + "out a", field("a 70 out", "b 72"), nil},
		{"out, and then dis", two + "out a; dis a", field("a 70 dis", "b 72"), nil},
		{"dis, and then out", two + "dis a; out b; out a", field("a 70 out", "b 72 out"), nil},
		{"out is no candidate", two + "cut 1 1; out a", field("a 70 out", "b 72"), nil},
		{"out before the cut", two + "out a; cut 1 1", field("a 70 out", "b 72"), nil},
		{"out, not cut", two + "cut 1 1; out b", field("a 70", "b 72 out"), nil},
		{"scores after a cut of somebody who is out", two + "cut 1 1; score b 2 71; out b", field("a 70", "b 72 71 out"), nil},
		{"scores after out", two + "dis b; score b 2 71; score b 1 73", field("a 70", "b 73 71 dis"), nil},
		{"scores that are missing", two + "out b; score b 3 71", field("a 70", "b 72 out"), []int{5}},
		{"out without scores does not miss a cut", "enter a; enter b; score a 1 70; cut 1 1; out b", field("a 70", "b out"), nil},
		{"a cut among those who are out", two + "out a; dis b; cut 1 1", field("a 70 out", "b 72 dis"), nil},
		{"out before the entry", "out a; enter a; score a 1 70", field("a 70"), []int{0}},
	})
}

func TestP7_6ReplayErrors(t *testing.T) {
	right := acts("enter ann")[0]
	for _, c := range []struct {
		name string
		l    []event.Act
		at   int
		want api.Errno
	}{
		{"1001 acts", make([]event.Act, 1001), 0, api.ErrMany},
		{"1001 acts without errors", slices.Repeat([]event.Act{right}, 1001), 0, api.ErrMany},
		{"the first act", []event.Act{{}, right}, 1, api.ErrKind},
		{"the second act", append([]event.Act{right}, acts("score ann 9 70; cut 1 0")...), 2, api.ErrRange},
		{"a name", append([]event.Act{right, right}, event.Act{Kind: "out"}), 3, api.ErrName},
		{"a player of a void", []event.Act{right, {Kind: "void", Player: "ann", Round: 1}}, 2, api.ErrForm},
		{"the last of 1000 acts", append(slices.Repeat([]event.Act{right}, 999), event.Act{Kind: "entry"}), 1000, api.ErrKind},
	} {
		s, at, e := event.Replay(c.l)
		fails(t, c.name, s, e, c.want)
		is(t, "the place: "+c.name, at, c.at)
		changed, e := event.Changed(c.l, acts("void 9"), []int{-1})
		fails(t, "the first list: "+c.name, changed, e, c.want)
		changed, e = event.Changed(sampleActs(), c.l, []int{-1})
		fails(t, "the second list: "+c.name, changed, e, c.want)
	}
	got, e := replay(slices.Repeat([]event.Act{right}, 1000))
	gives(t, "1000 acts", got, e, replayed{event.Standing{Lines: field("ann"), Aside: upTo(1000)[1:]}, 0})
}

func TestP7_6ReplayByDefinition(t *testing.T) {
	random := rand.New(rand.NewSource(12))
	cuts, voids := 0, 0
	for range 5000 {
		l := randomActs(random)
		want := slowReplay(l)
		got, e := replay(l)
		gives(t, fmt.Sprint("the standing of ", l), got, e, replayed{want, 0})
		if slices.ContainsFunc(want.Lines, func(line event.Line) bool { return line.State == "cut" && len(line.Scores) > 1 }) {
			cuts++
		}
		if len(want.Aside) > 3 && slices.ContainsFunc(l, func(a event.Act) bool { return a.Kind == "void" }) {
			voids++
		}
	}
	is(t, "often late cuts", cuts > 200, true)
	is(t, "often void rounds", voids > 200, true)
}

func TestP7_6Changed(t *testing.T) {
	purse := []int{100, 50}
	base := "enter a; enter b; enter c 1; score a 1 70; score b 1 72; score c 1 74; "
	for _, c := range []struct {
		name, a, b string
		want       []string
	}{
		{"nothing", "", "", nil},
		{"the same acts", base, base, nil},
		{"the same score again", base, base + "score b 1 72", nil},
		{"an act that is set aside", base, base + "enter a; score d 1 70; score a 3 70", nil},
		{"one in the second list alone", base, base + "enter d", []string{"d"}},
		{"one in the first list alone", base + "enter d", base, []string{"d"}},
		{"all, in ascending order", "", "enter bob; enter Zoe; enter ann; enter ann_2; enter ann1", []string{"Zoe", "ann", "ann1", "ann_2", "bob"}},
		{"a score alone", base, base + "score a 1 69", []string{"a"}},
		{"scores that change ranks", base, base + "score a 1 73", []string{"a", "b"}},
		{"the rank of an amateur", base, base + "score c 1 71", []string{"b", "c"}},
		{"an amateur who is a professional", base, "enter a; enter b; enter c; score a 1 70; score b 1 72; score c 1 74", []string{"c"}},
		{"a prize alone", "enter a; enter b 1; score a 1 70; score b 1 70", "enter a; enter b; score a 1 70; score b 1 70", []string{"a", "b"}},
		{"scores with the same total", base + "score a 2 70", base + "score a 2 68; score a 1 72", []string{"a"}},
		{"one who is out", base, base + "out c", []string{"c"}},
		{"one who is out and another one's rank", base, base + "out a", []string{"a", "b", "c"}},
		{"out and dis", base + "out a", base + "dis a", []string{"a"}},
		{"a cut", base, base + "cut 1 2", []string{"c"}},
		{"a cut with the same effect", base + "cut 1 1; cut 1 2", base + "cut 1 2", nil},
		{"players in another order", "enter a; enter b", "enter b; enter a", nil},
		{"players in another order who share an odd sum", "enter a; enter b; enter c", "enter c; enter b; enter a", nil},
	} {
		changed, e := event.Changed(acts(c.a), acts(c.b), purse)
		gives(t, c.name, changed, e, c.want)
		changed, e = event.Changed(acts(c.b), acts(c.a), purse)
		gives(t, c.name+", the other way round", changed, e, c.want)
	}
	// The first of those who share 101 has one more.
	changed, e := event.Changed(acts("enter a; enter b"), acts("enter b; enter a"), []int{101})
	gives(t, "an odd sum", changed, e, []string{"a", "b"})
	changed, e = event.Changed(acts("enter a; enter b"), acts("enter b; enter a"), nil)
	gives(t, "no purse", changed, e, nil)
	// Prizes alone: b is an amateur in the second list, and so the prize of c is another one.
	changed, e = event.Changed(acts("enter b; enter c"), acts("enter b 1; enter c"), []int{7})
	gives(t, "the prize of another one", changed, e, []string{"b", "c"})
	changed, e = event.Changed(acts("enter b; enter c"), acts("enter b 1; enter c"), nil)
	gives(t, "no prize of another one", changed, e, []string{"b"})
	changed, e = event.Changed(acts("void 9"), nil, nil)
	fails(t, "an error of the first list", changed, e, api.ErrRange)
	changed, e = event.Changed(nil, acts("void 1; entry ann"), nil)
	fails(t, "an error of the second list", changed, e, api.ErrKind)
}

func TestP7_6ChangedByDefinition(t *testing.T) {
	random := rand.New(rand.NewSource(13))
	some := 0
	for range 3000 {
		a := randomActs(random)
		b := slices.Clone(a)
		for range random.Intn(3) {
			at := random.Intn(len(b) + 1)
			b = slices.Insert(b, at, randomAct(random, names(7), 4))
		}
		if random.Intn(3) == 0 && len(b) > 0 {
			at := random.Intn(len(b))
			b = slices.Delete(b, at, at+1)
		}
		purse := randomPurse(random, random.Intn(8))
		want := slowChanged(a, b, purse)
		got, e := event.Changed(a, b, purse)
		gives(t, fmt.Sprint("what changes from ", a, " to ", b, " with ", purse), got, e, want)
		if len(want) > 1 {
			some++
		}
	}
	is(t, "often more than one", some > 300, true)
}

// A standing has as many lines as players enter: no limit of fields bounds it on the way.
func TestP7_6ManyPlayers(t *testing.T) {
	var l []event.Act
	for _, name := range names(500) {
		l = append(l, event.Act{Kind: "enter", Player: name})
	}
	for _, name := range names(499) {
		l = append(l, event.Act{Kind: "score", Player: name, Round: 1, Value: 70})
	}
	s, at, e := event.Replay(l)
	gives(t, "the place", at, e, 0)
	is(t, "the lines", len(s.Lines), 500)
	is(t, "the last one with a score", s.Lines[498], event.Line{Player: "p498", Scores: []int{70}})
	// 499 share 1000, so the first two have 3 and the others 2.
	purse := []int{600, 400}
	changed, e := event.Changed(l, l, purse)
	gives(t, "the same acts", changed, e, nil)
	changed, e = event.Changed(l, append(slices.Clone(l), event.Act{Kind: "dis", Player: "p0"}), purse)
	// Now 498 share 1000: the first four have 3, so that of p2, p3 and p4 changes, and p499 has the rank 499.
	gives(t, "p0 is disqualified", changed, e, []string{"p0", "p2", "p3", "p4", "p499"})
	s, _, e = event.Replay(append(slices.Clone(l), event.Act{Kind: "cut", Round: 1, Value: 200}))
	gives(t, "the one without a score", s.Lines[499], e, event.Line{Player: "p499", State: "cut"})
	is(t, "one of those who are tied", s.Lines[498], event.Line{Player: "p498", Scores: []int{70}})
}
