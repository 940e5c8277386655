package handicap_test

import (
	"fmt"
	"math"
	"math/rand"
	"slices"
	"strings"
	"testing"

	"niblick/api"
	"niblick/card"
	"niblick/format"
	"niblick/handicap"
)

// shuffled returns scores in another order.
func shuffled(random *rand.Rand, l []handicap.Score) []handicap.Score {
	l = slices.Clone(l)
	random.Shuffle(len(l), func(i, j int) { l[i], l[j] = l[j], l[i] })
	return l
}

func TestP6_6AnyOrder(t *testing.T) {
	random := rand.New(rand.NewSource(10))
	for range 200 {
		p := randomPlayer(random)
		l := randomScores(random, 1+random.Intn(40), p)
		q := question{l: l, m: sample(4), fixed: l[0], day: random.Intn(p.days)}
		before := answers(q)
		q.l = shuffled(random, l)
		for i, a := range answers(q) {
			is(t, a.name+" in another order", a, before[i])
		}
		changed, e := handicap.Changed(l, q.l)
		gives(t, "what changes", changed, e, nil)
	}
}

func TestP6_6LaterScores(t *testing.T) {
	random := rand.New(rand.NewSource(11))
	for range 200 {
		l := slowSorted(randomScores(random, 2+random.Intn(40), randomPlayer(random)))
		steps, e := handicap.History(l)
		ok(t, steps, e)
		earlier := random.Intn(len(l))
		before, e := handicap.History(shuffled(random, l[:earlier]))
		gives(t, "the steps before", before, e, steps[:earlier])
		if earlier > 0 {
			index, e := handicap.Index(l[:earlier], handicap.MaxDay)
			is(t, "the last index of them", e == api.OK, steps[earlier-1].Known)
			is(t, "which is that of the step", e == api.OK && index != steps[earlier-1].Index, false)
		}
	}
}

func TestP6_6NoIndexFarAboveTheYearBefore(t *testing.T) {
	random := rand.New(rand.NewSource(12))
	most := 0
	for range 300 {
		p := randomPlayer(random)
		l := randomScores(random, 1+random.Intn(60), p)
		// Somebody who gets worse.
		for i := range l {
			l[i].Gross = min(999, l[i].Gross+l[i].Day*20/p.days)
		}
		steps, e := handicap.History(l)
		ok(t, steps, e)
		for i, s := range steps {
			for _, before := range steps[:i] {
				if before.Known && s.Day-365 <= before.Day && before.Day < s.Day {
					above := minus(bigRat(s.Index), bigRat(before.Index))
					is(t, "at most 5 above", above.Cmp(number(5)) <= 0, true)
					if above.Cmp(number(5)) == 0 {
						most++
					}
				}
			}
		}
	}
	is(t, "often 5 above", most > 100, true)
}

func sum(l []int) int {
	sum := 0
	for _, n := range l {
		sum += n
	}
	return sum
}

func TestP6_6AdjustedStrokes(t *testing.T) {
	random := rand.New(rand.NewSource(13))
	less := 0
	for range 2000 {
		n := 1 + random.Intn(18)
		h, c, course := randomHoles(random, n), randomCard(random, n, 1000000), random.Intn(199)-99
		gross, e := format.Gross(h, format.Player{Card: c})
		ok(t, gross, e)
		adjusted, e := handicap.Adjusted(h, c, course)
		ok(t, adjusted, e)
		limits, e := handicap.Limits(h, course)
		ok(t, limits, e)
		is(t, "at most the gross strokes", adjusted <= gross, true)
		is(t, "at most the limits", adjusted <= sum(limits), true)
		if adjusted < gross && adjusted < sum(limits) {
			less++
		}
		// Hole by hole: with one hole picked up, the strokes differ by what is left to its limit.
		hole := random.Intn(n)
		c.Entries[hole] = api.Entry{Mark: "x"}
		picked, e := handicap.Adjusted(h, c, course)
		is(t, "no hole above its limit", ok(t, picked, e) >= adjusted, true)
		is(t, "the limit of a hole that is picked up", picked <= sum(limits), true)
	}
	is(t, "often less", less > 500, true)
}

func TestP6_6MergingInAnyOrder(t *testing.T) {
	random := rand.New(rand.NewSource(14))
	for range 300 {
		all := randomScores(random, random.Intn(40), randomPlayer(random))
		part := func() []handicap.Score { return shuffled(random, all)[:random.Intn(len(all)+1)] }
		a, b, c := part(), part(), part()
		merge := func(a, b []handicap.Score) []handicap.Score { return ok2(t)(handicap.Merge(a, b)) }
		is(t, "the other way round", merge(a, b), merge(b, a))
		is(t, "three", merge(merge(a, b), c), merge(a, merge(b, c)))
		is(t, "again", merge(merge(a, b), a), merge(a, b))
		is(t, "a part and all", merge(a, all), slowSorted(all))
		if len(a) > 0 {
			other := a[random.Intn(len(a))]
			other.Day++
			_, e := handicap.Merge(a, []handicap.Score{other})
			is(t, "another score", e, api.ErrConflict)
			_, e = handicap.Merge([]handicap.Score{other}, a)
			is(t, "another score first", e, api.ErrConflict)
		}
	}
}

func TestP6_6CorrectedToItself(t *testing.T) {
	random := rand.New(rand.NewSource(15))
	for range 100 {
		l := randomScores(random, 1+random.Intn(40), randomPlayer(random))
		s := l[random.Intn(len(l))]
		fixed := ok2(t)(handicap.Correct(l, s))
		is(t, "the scores", fixed, slowSorted(l))
		changed, e := handicap.Changed(l, fixed)
		gives(t, "what changes", changed, e, nil)
		// A correction that is taken back changes nothing.
		wrong := s
		wrong.Gross, wrong.Day = 1+random.Intn(200), random.Intn(1000)
		back := ok2(t)(handicap.Correct(ok2(t)(handicap.Correct(l, wrong)), s))
		is(t, "a correction that is taken back", back, slowSorted(l))
	}
}

// randomQuestion returns a question of random arguments without errors in its lists.
func randomQuestion(random *rand.Rand) question {
	p := randomPlayer(random)
	n := 1 + random.Intn(20)
	q := fresh()
	q.l, q.m = randomScores(random, 1+random.Intn(10), p), randomScores(random, random.Intn(10), p)
	q.fixed, q.score, q.day = q.l[0], q.l[0], random.Intn(p.days+400)
	q.h, q.c, q.courseOfHoles = randomHoles(random, n), randomCard(random, n, 5), random.Intn(199)-99
	return q
}

// Whatever the arguments are, each function returns.
func TestP1AllArguments(t *testing.T) {
	random := rand.New(rand.NewSource(16))
	extremes := []int{math.MinInt, math.MinInt + 1, math.MinInt32, -1000, -366, -100, -99, -21, -20, -6, -5, -1, 0, 0, 1, 1, 2, 3, 4, 20, 55, 99, 100, 155, 200, 365, 999, 1000, 99999, 100000, 999999999, 1000000000, math.MaxInt32, math.MaxInt}
	number := func() int { return extremes[random.Intn(len(extremes))] }
	texts := []api.Rat{"", " ", "0", "1", "-1", "72", "200", "201", "-20", "1/2", "1/3", "-0", "1/0", "x", "-", "\xff", most, "-" + most, "1/" + most, most[1:] + "/" + most, api.Rat(strings.Repeat("1", 5000))}
	text := func() api.Rat { return texts[random.Intn(len(texts))] }
	ints := func() []int {
		var l []int
		for range random.Intn(6) {
			l = append(l, number())
		}
		return l
	}
	anyScore := func() handicap.Score {
		return handicap.Score{Day: number(), Number: number(), Gross: number(), Rating: text(), Slope: number(), Conditions: number()}
	}
	for range 4000 {
		q := randomQuestion(random)
		switch random.Intn(7) {
		case 0:
			q.score, q.fixed = anyScore(), anyScore()
		case 1:
			q.l[random.Intn(len(q.l))] = anyScore()
		case 2:
			q.m = append(q.m, anyScore(), anyScore())
		case 3:
			q.scores, q.day, q.slope, q.par, q.course, q.percent, q.courseOfHoles = number(), number(), number(), number(), number(), number(), number()
		case 4:
			q.index, q.rating, q.numbers[random.Intn(9)] = text(), text(), text()
		case 5:
			q.side, q.percents = ints(), ints()
		case 6:
			q.h[random.Intn(len(q.h))] = api.Hole{Par: number(), Index: number()}
			q.c.Entries[random.Intn(len(q.c.Entries))] = api.Entry{Strokes: number(), Mark: string(text())}
		}
		answers(q)
	}
	answers(question{})
	answers(question{l: make([]handicap.Score, 100000), m: many(100000), numbers: make([]api.Rat, 100000), side: make([]int, 100000), percents: make([]int, 100000), h: make([]api.Hole, 100000), c: api.Card{Entries: make([]api.Entry, 100000)}})
	for _, s := range []handicap.Score{{Day: 99999, Number: 1, Gross: 999, Rating: "1", Slope: 55, Conditions: -5}, {Number: 1, Gross: 1, Rating: "200", Slope: 55, Conditions: 5}} {
		l := slices.Repeat([]handicap.Score{s}, 256)
		for i := range l {
			l[i].Number = i + 1
		}
		answers(question{l: l, m: l, day: 99999, fixed: s})
	}
}

// Arguments remain as they were, and the same call has the same results.
func TestP1ArgumentsRemain(t *testing.T) {
	random := rand.New(rand.NewSource(17))
	for range 500 {
		q := randomQuestion(random)
		kept := copied(q)
		before := answers(q)
		is(t, "the arguments", q, kept)
		for i, a := range answers(q) {
			is(t, "the same results", a, before[i])
		}
	}
}

// Results share no memory with arguments, or with each other: what is written to one is nowhere else.
func TestP1ResultsShareNothing(t *testing.T) {
	q := fresh()
	q.m = nil // so that Merge could return l itself
	q.fixed = q.l[0]
	kept := copied(q)
	before := answers(q)
	for _, a := range answers(q) {
		switch l := a.value.(type) {
		case []int:
			overwrite(l, -12345)
		case []handicap.Score:
			overwrite(l, handicap.Score{Day: -12345})
		case []handicap.Step:
			overwrite(l, handicap.Step{Day: -12345})
		}
	}
	is(t, "the arguments", q, kept)
	for i, a := range answers(q) {
		is(t, "the results of "+a.name, a, before[i])
	}
}

// overwrite writes to all of a list, also behind its end.
func overwrite[T any](l []T, x T) {
	l = l[:cap(l)]
	for i := range l {
		l[i] = x
	}
}

// The layers agree: limits are pars, strokes given, and 2; a card that is scored on its limits has no net strokes more than 2 above par.
func TestP6_6LimitsAndNetStrokes(t *testing.T) {
	random := rand.New(rand.NewSource(18))
	for range 500 {
		n := 1 + random.Intn(36)
		h, course := randomHoles(random, n), random.Intn(100)
		limits, e := handicap.Limits(h, course)
		c := api.Card{Player: "ann"}
		for _, limit := range ok(t, limits, e) {
			c.Entries = append(c.Entries, api.Entry{Strokes: min(limit, api.MaxStrokes)})
		}
		if card.CheckCard(h, c) != api.OK || slices.Max(limits) > api.MaxStrokes {
			continue
		}
		nets, e := format.Nets(h, format.Player{Card: c, Handicap: course})
		for i, net := range ok(t, nets, e) {
			is(t, fmt.Sprint("net strokes of the hole ", i), net.Strokes, h[i].Par+2)
		}
		adjusted, e := handicap.Adjusted(h, c, course)
		gives(t, "a card on its limits", adjusted, e, sum(limits))
	}
}
