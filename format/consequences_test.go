package format_test

import (
	"math"
	"math/rand"
	"slices"
	"strings"
	"testing"

	"niblick/api"
	"niblick/format"
)

func sum(l []int) int {
	sum := 0
	for _, n := range l {
		sum += n
	}
	return sum
}

// strokesOf returns the strokes of net strokes that count.
func strokesOf(l []format.Net) []int {
	var strokes []int
	for _, n := range l {
		strokes = append(strokes, n.Strokes)
	}
	return strokes
}

func TestP5_6StrokesGivenAddUp(t *testing.T) {
	random := rand.New(rand.NewSource(14))
	for n := 1; n <= 36; n++ {
		h := randomHoles(random, n)
		for handicap := -99; handicap <= 99; handicap++ {
			l, e := format.Given(h, handicap)
			gives(t, "the sum of the strokes given", sum(l), e, handicap)
			is(t, "evenly", slices.Max(l)-slices.Min(l) <= 1, true)
		}
	}
}

// A net score is the gross score less the handicap strokes, and the sum of the net strokes.
func TestP5_6Scores(t *testing.T) {
	random := rand.New(rand.NewSource(15))
	for range 2000 {
		h := randomHoles(random, 1+random.Intn(36))
		p := randomPlayers(random, len(h), 1, 1000)[0]
		gross, e := format.Gross(h, p)
		net, e2 := format.Score(h, p)
		is(t, "both scores, or none", e, e2)
		if e == api.OK {
			is(t, "the net score", net, gross-p.Handicap)
			l, e := format.Nets(h, p)
			gives(t, "the sum of the net strokes", sum(strokesOf(l)), e, net)
		}
	}
}

// Where all points are above 0, they and the net strokes add up to the same on each card.
func TestP5_6Points(t *testing.T) {
	random := rand.New(rand.NewSource(16))
	found := 0
	for range 20000 {
		h := randomHoles(random, 1+random.Intn(6))
		p := randomPlayers(random, len(h), 1, 50)[0]
		points, e := format.Points(h, p)
		is(t, "the error of Points", e, api.OK)
		if slices.Min(points) > 0 {
			found++
			net, e := format.Score(h, p)
			pars := sumOfPars(h)
			gives(t, "points and net strokes", sum(points)+net, e, 2*len(h)+pars)
		}
	}
	is(t, "often enough", found > 1000, true)
}

func sumOfPars(h []api.Hole) int {
	pars := 0
	for _, hole := range h {
		pars += hole.Par
	}
	return pars
}

// A match the other way round has the opposite states.
func TestP5_6OppositeMatches(t *testing.T) {
	random := rand.New(rand.NewSource(17))
	for range 2000 {
		n := 1 + random.Intn(36)
		a, b := randomNets(random, n, 20), randomNets(random, n, 20)
		l, e := format.Sides(a, b)
		is(t, "the error of Sides", e, api.OK)
		opposite := slices.Clone(l)
		for i := range opposite {
			opposite[i].Up = -opposite[i].Up
		}
		other, e := format.Sides(b, a)
		gives(t, "Sides the other way round", other, e, opposite)
		for i, s := range l {
			is(t, "only the last state may be over", s.Over && i < len(l)-1, false)
			words, e := format.Describe(s)
			is(t, "words for a state that is over", e == api.OK, s.Over)
			otherWords, _ := format.Describe(other[i])
			changed := strings.NewReplacer("first", "second", "second", "first").Replace(words)
			is(t, "the words the other way round", otherWords, changed)
		}
		h := randomHoles(random, n)
		players := randomPlayers(random, n, 2, 20)
		first, e := format.Match(h, players[0], players[1])
		is(t, "the error of Match", e, api.OK)
		second, e := format.Match(h, players[1], players[0])
		gives(t, "as many states", len(second), e, len(first))
		for i := range first {
			first[i].Up = -first[i].Up
		}
		is(t, "Match the other way round", second, first)
	}
}

// A match does not change if the net strokes of both rise alike on a hole.
func TestP5_6RisesOfBoth(t *testing.T) {
	random := rand.New(rand.NewSource(18))
	for range 2000 {
		n := 1 + random.Intn(36)
		a, b := randomNets(random, n, 20), randomNets(random, n, 20)
		want, e := format.Sides(a, b)
		is(t, "the error of Sides", e, api.OK)
		for i := range n {
			rise := random.Intn(900)
			for _, x := range []*format.Net{&a[i], &b[i]} {
				if x.Mark == "" {
					x.Strokes += rise
				}
			}
		}
		l, e := format.Sides(a, b)
		gives(t, "after a rise", l, e, want)
	}
}

// A match of two players is that of their net strokes; with as many handicap strokes more for both on each hole it is the same.
func TestP5_6MatchesOfPlayers(t *testing.T) {
	random := rand.New(rand.NewSource(19))
	for range 1000 {
		h := randomHoles(random, 1+random.Intn(36))
		l := randomPlayers(random, len(h), 2, 20)
		l[0].Handicap, l[1].Handicap = random.Intn(50), random.Intn(50)
		want, e := format.Match(h, l[0], l[1])
		is(t, "the error of Match", e, api.OK)
		a, _ := format.Nets(h, l[0])
		b, _ := format.Nets(h, l[1])
		states, e := format.Sides(a, b)
		gives(t, "the match of the net strokes", states, e, want)
		l[0].Handicap += len(h)
		l[1].Handicap += len(h)
		states, e = format.Match(h, l[0], l[1])
		gives(t, "with a stroke more on each hole", states, e, want)
	}
}

// A fourball of two players with the same entries scores as one of them.
func TestP5_6FourballsOfOne(t *testing.T) {
	random := rand.New(rand.NewSource(20))
	for range 1000 {
		h := randomHoles(random, 1+random.Intn(36))
		p := randomPlayers(random, len(h), 1, 5)[0]
		other := p
		other.Card.Player = "other"
		want, e := format.Nets(h, p)
		is(t, "the error of Nets", e, api.OK)
		l, e := format.Fourball(h, []format.Player{p, other})
		gives(t, "a fourball", l, e, want)
		states, e := format.Sides(l, want)
		is(t, "the error of Sides", e, api.OK)
		for _, s := range states {
			is(t, "nobody is up", s.Up, 0)
		}
		// A partner never makes it worse.
		partner := randomPlayers(random, len(h), 2, 5)[1]
		l, e = format.Fourball(h, []format.Player{p, partner})
		is(t, "the error of Fourball", e, api.OK)
		for i, n := range l {
			is(t, "with a partner", want[i].Mark == "" && (n.Mark != "" || n.Strokes > want[i].Strokes), false)
		}
	}
}

// Ranks are a total preorder, and the same as Countback tells.
func TestP5_6Preorder(t *testing.T) {
	random := rand.New(rand.NewSource(21))
	for range 200 {
		l := randomLists(random, 2+random.Intn(10), 1+random.Intn(12))
		ranks, e := format.Ranks(l)
		is(t, "the error of Ranks", e, api.OK)
		for i := range l {
			ahead := 0
			for j := range l {
				order, e := format.Countback(l[i], l[j])
				is(t, "the error of Countback", e, api.OK)
				is(t, "ranks and Countback", order, min(1, max(-1, ranks[i]-ranks[j])))
				back, _ := format.Countback(l[j], l[i])
				is(t, "the other way round", back, -order)
				if order > 0 {
					ahead++
				}
				for k := range l {
					next, _ := format.Countback(l[j], l[k])
					far, _ := format.Countback(l[i], l[k])
					is(t, "one behind another", order <= 0 && next <= 0 && far > 0, false)
				}
			}
			is(t, "the rank", ranks[i], 1+ahead)
		}
		turned := slices.Clone(l)
		slices.Reverse(turned)
		others, e := format.Ranks(turned)
		slices.Reverse(others)
		gives(t, "ranks in another order", others, e, ranks)
	}
}

// Leaders are ranked as the lists of their net strokes, and by their net scores first.
func TestP5_6LeadersAreRanked(t *testing.T) {
	random := rand.New(rand.NewSource(22))
	for range 300 {
		h := randomHoles(random, 1+random.Intn(9))
		f := format.Field{Holes: h, Players: randomPlayers(random, len(h), random.Intn(30), 20)}
		order, ranks, e := format.Leaders(f)
		is(t, "the error of Leaders", e, api.OK)
		var lists [][]int
		for i, player := range order {
			l, _ := format.Nets(h, f.Players[player])
			lists = append(lists, strokesOf(l))
			_, e := format.Score(h, f.Players[player])
			is(t, "a net score", e, api.OK)
			if i > 0 {
				is(t, "in order", sum(lists[i-1]) <= sum(lists[i]), true)
				is(t, "tied ones in the order of the field", ranks[i-1] == ranks[i] && order[i-1] > player, false)
			}
		}
		if len(order) > 0 {
			want, e := format.Ranks(lists)
			gives(t, "the ranks", ranks, e, want)
		}
	}
}

// randomQuestion returns a question of random arguments without errors.
func randomQuestion(random *rand.Rand) question {
	holes := 1 + random.Intn(20)
	l := randomPlayers(random, holes, 10, 10)
	q := question{h: randomHoles(random, holes), handicap: randomHandicap(random)}
	q.field, q.side, q.p, q.q = l, l[:2+random.Intn(3)], l[0], l[1]
	q.a, q.b = randomNets(random, holes, 10), randomNets(random, holes, 10)
	q.state = format.State{Up: random.Intn(10), Over: true}
	q.some = []int{randomHandicap(random), randomHandicap(random), randomHandicap(random)}
	q.two = slices.Clone(q.some[:2])
	lists := randomLists(random, 5, holes)
	q.lists, q.x, q.y, q.scores, q.count = lists, lists[0], lists[1], lists[2], 1+random.Intn(holes)
	q.strokes = slices.Repeat([][]int{slices.Repeat([]int{4}, holes)}, 3)
	return copied(q)
}

// Whatever the arguments are, each function returns.
func TestP1AllArguments(t *testing.T) {
	random := rand.New(rand.NewSource(23))
	extremes := []int{math.MinInt, math.MinInt + 1, math.MinInt32, -10000, -9999, -1000, -999, -100, -99, -1, 0, 0, 1, 1, 2, 3, 4, 5, 36, 37, 99, 100, 999, 1000, 9999, 10000, math.MaxInt32, math.MaxInt}
	number := func() int { return extremes[random.Intn(len(extremes))] }
	texts := []string{"", " ", "x", "c", "-", "xx", "A", "\x00", "\xff", strings.Repeat("a", 5000)}
	text := func() string { return texts[random.Intn(len(texts))] }
	list := func() []int {
		var l []int
		for range random.Intn(6) {
			l = append(l, number())
		}
		return l
	}
	anyone := func() format.Player {
		p := format.Player{Card: api.Card{Player: text()}, Handicap: number()}
		for range random.Intn(5) {
			p.Card.Entries = append(p.Card.Entries, api.Entry{Strokes: number(), Mark: text()})
		}
		return p
	}
	for range 5000 {
		q := randomQuestion(random)
		switch random.Intn(8) {
		case 0:
			q.h = append(q.h[:random.Intn(len(q.h))], api.Hole{Par: number(), Index: number()})
		case 1:
			q.field[random.Intn(len(q.field))], q.side[random.Intn(len(q.side))], q.p, q.q = anyone(), anyone(), anyone(), anyone()
		case 2:
			q.a[random.Intn(len(q.a))] = format.Net{Strokes: number(), Mark: text()}
			q.b[random.Intn(len(q.b))] = format.Net{Strokes: number(), Mark: text()}
		case 3:
			q.state = format.State{Up: number(), To: number(), Over: random.Intn(2) == 0}
		case 4:
			q.two, q.some, q.scores, q.x, q.y = list(), list(), list(), list(), list()
		case 5:
			q.lists[random.Intn(len(q.lists))], q.strokes[random.Intn(len(q.strokes))] = list(), list()
		case 6:
			q.count, q.handicap = number(), number()
		case 7:
			q.lists, q.strokes = [][]int{list(), list()}, [][]int{list(), list(), list()}
		}
		answers(q)
	}
	answers(question{})
	many := make([]int, 100000)
	answers(question{h: make([]api.Hole, 100000), field: make([]format.Player, 100000), side: make([]format.Player, 100000), a: make([]format.Net, 100000), b: make([]format.Net, 100000), two: many, some: many, scores: many, x: many, y: many, lists: make([][]int, 100000), strokes: make([][]int, 100000)})
}

// Arguments remain as they were, and the same call has the same results.
func TestP1ArgumentsRemain(t *testing.T) {
	random := rand.New(rand.NewSource(24))
	for range 500 {
		q := randomQuestion(random)
		kept := copied(q)
		before := answers(q)
		is(t, "the arguments", q, kept)
		for i, a := range answers(q) {
			is(t, "the same results", a, before[i])
		}
	}
}

// Results share no memory with arguments, or with each other: what is written to one is nowhere else.
func TestP1ResultsShareNothing(t *testing.T) {
	q := fresh()
	kept := copied(q)
	before, after := answers(q), answers(q)
	for _, a := range after {
		for _, x := range a.values {
			switch l := x.(type) {
			case []int:
				overwrite(l, -12345)
			case []format.Net:
				overwrite(l, format.Net{Mark: "?"})
			case []format.State:
				overwrite(l, format.State{Up: -12345})
			}
		}
	}
	is(t, "the arguments", q, kept)
	for i, a := range answers(q) {
		is(t, "the results of "+a.name, a, before[i])
	}
	// With another list of a call, too.
	order, ranks, e := format.Leaders(format.Field{Holes: q.h, Players: q.field})
	overwrite(order, -12345)
	gives(t, "the ranks", ranks, e, []int{1})
}

// overwrite writes to all of a list, also behind its end.
func overwrite[T any](l []T, x T) {
	l = l[:cap(l)]
	for i := range l {
		l[i] = x
	}
}
