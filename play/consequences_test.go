package play_test

import (
	"math"
	"math/rand"
	"slices"
	"strings"
	"testing"

	"niblick/api"
	"niblick/course"
	"niblick/play"
)

// Each legal act has one successor, a valid state in which the ball of its player alone is another one, and no score is lower.
func TestP4_6Successors(t *testing.T) {
	random := rand.New(rand.NewSource(5))
	legal := 0
	for range 1500 {
		s := randomSetup(random)
		x := randomState(random, s)
		for range 25 {
			a := randomAct(random, s)
			rule, e := play.Legal(s, x, a)
			is(t, "the error of Legal", e, api.OK)
			next, e := play.Next(s, x, a)
			is(t, "one successor, or none", e == api.OK, rule == 0)
			if e != api.OK {
				continue
			}
			legal++
			is(t, "the successor", play.CheckState(s, next), api.OK)
			for player, b := range x.Balls {
				is(t, "who has ended stays so", b.Phase == "done" && next.Balls[player].Phase != "done", false)
				is(t, "the score", next.Balls[player].Strokes+next.Balls[player].Penalty >= b.Strokes+b.Penalty, true)
				if player != a.Player {
					is(t, "the ball of another player", next.Balls[player], b)
				}
			}
			again, e := play.Next(s, x, a)
			gives(t, "the same successor", again, e, next)
		}
	}
	is(t, "often enough legal", legal > 2000, true)
}

// Act by act, or at once, a log has the same state; without what was set aside, too.
func TestP4_6Replays(t *testing.T) {
	random := rand.New(rand.NewSource(6))
	for range 1500 {
		s := randomSetup(random)
		l := randomLog(random, s, random.Intn(25))
		acts, numbers, e := play.InForce(s, l)
		is(t, "the error of InForce", e, api.OK)
		want, aside, e := play.Replay(s, l)
		is(t, "the error of Replay", e, api.OK)
		x, _ := play.Start(s)
		var legal []play.Act
		for i, a := range acts {
			rule, _ := play.Legal(s, x, a)
			is(t, "set aside", slices.Contains(aside, play.Refusal{Item: numbers[i], Rule: rule}), rule != 0)
			if next, e := play.Next(s, x, a); e == api.OK {
				x, legal = next, append(legal, a)
			}
			is(t, "a valid state", play.CheckState(s, x), api.OK)
		}
		is(t, "act by act", x, want)
		clean, refusals, e := play.Replay(s, items(legal...))
		gives(t, "without what was set aside", clean, e, want)
		is(t, "nothing more is set aside", len(refusals), 0)
		// What is set aside may be taken out, too, as items that are void.
		for _, r := range aside {
			if r.Rule != 0 {
				l = append(l, void(r.Item))
			}
		}
		clean, _, e = play.Replay(s, l)
		gives(t, "with what was set aside void", clean, e, want)
	}
}

// A ruling that puts the same act in its place changes nothing.
func TestP4_6SameAct(t *testing.T) {
	random := rand.New(rand.NewSource(7))
	for range 1500 {
		s := randomSetup(random)
		l := randomLog(random, s, 1+random.Intn(20))
		acts, numbers, _ := play.InForce(s, l)
		want, aside, _ := play.Replay(s, l)
		for i, a := range acts {
			corrected, e := play.Correct(s, l, numbers[i], a)
			is(t, "the error of Correct", e, api.OK)
			x, refusals, e := play.Replay(s, corrected)
			gives(t, "the state", x, e, want)
			gives(t, "set aside", refusals, e, aside)
			players, e := play.Changed(s, l, numbers[i], a)
			gives(t, "Changed", players, e, nil)
		}
	}
}

// Running ends with the score of the card.
func TestP4_6RunningScores(t *testing.T) {
	random := rand.New(rand.NewSource(8))
	for range 500 {
		s := randomSetup(random)
		l := randomLog(random, s, 1+random.Intn(20))
		x, _, _ := play.Replay(s, l)
		for player, b := range x.Balls {
			scores, e := play.Running(s, l, player)
			is(t, "the error of Running", e, api.OK)
			is(t, "scores never fall", slices.IsSorted(scores), true)
			if len(scores) > 0 {
				is(t, "the last score", scores[len(scores)-1], b.Strokes+b.Penalty)
			}
		}
	}
}

// Whatever the arguments are, each function returns.
func TestP1AllArguments(t *testing.T) {
	random := rand.New(rand.NewSource(9))
	extremes := []int{math.MinInt, math.MinInt32, -1000001, -1000000, -1, 0, 0, 1, 1, 2, 3, 4, 5, 98, 99, 100, 256, 257, 1000000, 1000001, math.MaxInt32, math.MaxInt}
	number := func() int { return extremes[random.Intn(len(extremes))] }
	place := func() api.Place { return at(number(), number()) }
	texts := append([]string{"", " ", "play", "doubt", "lifted", "done", "holed", "conceded", "picked", "water", "\x00", "\xff", strings.Repeat("a", 5000)}, allKinds...)
	text := func() string { return texts[random.Intn(len(texts))] }
	edges := []api.Rat{"", "0", "-0", "1/2", "2/4", most, "1/" + most, most + "0"}
	edge := func() api.Rat { return edges[random.Intn(len(edges))] }
	for range 4000 {
		q := question{s: randomSetup(random), player: number(), number: number()}
		q.x, q.a, q.l = randomState(random, q.s), randomAct(random, q.s), randomLog(random, q.s, 5)
		switch random.Intn(6) {
		case 0:
			q.s = play.Setup{Hole: course.Hole{Name: text(), Tee: place(), Cup: place()}, Players: number(), Club: number()}
		case 1:
			q.s.Players, q.s.Club = number(), number()
		case 2:
			q.x.Balls[0] = play.Ball{Phase: text(), End: text(), At: place(), From: place(), Edge: point(edge(), edge()), Strokes: number(), Penalty: number(), Spares: number(), Spare: place()}
		case 3:
			q.a = play.Act{Player: number(), Kind: text(), At: place()}
			q.l = append(q.l, play.Item{Replaces: number(), Void: random.Intn(2) == 0, Act: q.a})
		case 4:
			for i := range q.l {
				q.l[i].Replaces = number()
			}
		case 5:
			q.x.Balls = slices.Repeat(q.x.Balls, random.Intn(3))
		}
		answers(q)
	}
	answers(question{})
	answers(question{s: pond()})
	answers(question{s: pond(), x: play.State{Balls: make([]play.Ball, 100000)}, l: make([]play.Item, 100000)})
}

// Arguments remain as they were, and the same call has the same results.
func TestP1ArgumentsRemain(t *testing.T) {
	random := rand.New(rand.NewSource(10))
	for range 300 {
		s := randomSetup(random)
		q := question{s: s, x: randomState(random, s), l: randomLog(random, s, 8), a: randomAct(random, s), player: random.Intn(s.Players), number: 1 + random.Intn(8)}
		kept := copied(q)
		before := answers(q)
		is(t, "the arguments", q, kept)
		for i, a := range answers(q) {
			is(t, "the same results", a, before[i])
		}
	}
}

// Results share no memory with arguments: neither changes with the other.
func TestP1ResultsShareNothing(t *testing.T) {
	q := fresh()
	q.x.Balls = append(make([]play.Ball, 0, 10), q.x.Balls...)
	q.l = append(make([]play.Item, 0, 10), q.l...)
	kept := copied(q)
	next, e := play.Next(q.s, q.x, q.a)
	is(t, "Next", e, api.OK)
	balls := slices.Clone(next.Balls)
	q.x.Balls[1] = play.Ball{}
	is(t, "a state behind another one", next.Balls, balls)
	q = copied(kept)
	next, _ = play.Next(q.s, q.x, q.a)
	next.Balls[1] = play.Ball{}
	is(t, "the state before", q, kept)
	q.l = append(make([]play.Item, 0, 10), q.l...)
	corrected, e := play.Correct(q.s, q.l, q.number, q.a)
	is(t, "Correct", e, api.OK)
	cancelled, e := play.Cancel(q.s, q.l, q.number)
	is(t, "Cancel", e, api.OK)
	_ = append(q.l, play.Item{})
	is(t, "two logs", corrected[len(q.l)], ruling(q.number, q.a))
	corrected[0] = play.Item{}
	is(t, "the log before", q.l, kept.l)
	is(t, "another log", cancelled[0], kept.l[0])
	start, _ := play.Start(q.s)
	start.Balls[0] = play.Ball{}
	again, _ := play.Start(q.s)
	is(t, "another start", again, state(q.s))
}
