package strategy_test

import (
	"fmt"
	"math"
	"math/big"
	"math/rand"
	"reflect"
	"slices"
	"strings"
	"testing"

	"niblick/api"
	"niblick/strategy"
)

// someProcess returns a process of any size from which a plan ends, and such a plan.
func someProcess(random *rand.Rand, large bool) (strategy.Process, []int) {
	for {
		p := randomProcess(random, 1+random.Intn(8), 3, 1+random.Intn(5))
		if large {
			p = fullProcess(random)
		}
		plan := randomPlan(random, p)
		if ends, _ := strategy.Ends(p, plan); len(ends) == len(p.States) {
			return p, plan
		}
	}
}

func TestP9_6ValuesAreTheirOwnMeans(t *testing.T) {
	random := rand.New(rand.NewSource(15))
	for n := range 300 {
		p, plan := someProcess(random, n%100 == 0)
		values, e := strategy.Values(p, plan)
		for i, v := range ok(t, values, e) {
			m, e := strategy.Mean(p, values, i, plan[i])
			gives(t, fmt.Sprint(p, plan), m, e, v)
		}
	}
}

func TestP9_6NoPlanIsBetter(t *testing.T) {
	random := rand.New(rand.NewSource(16))
	better := 0
	for n := range 300 {
		p, plan := someProcess(random, n%100 == 0)
		b, e := best(p)
		least := bigOfAll(ok(t, b, e).values)
		values, e := strategy.Values(p, plan)
		for i, v := range bigOfAll(ok(t, values, e)) {
			is(t, fmt.Sprint(p, plan), v.Cmp(least[i]) >= 0, true)
			if v.Cmp(least[i]) > 0 {
				better++
			}
		}
		// The plan of the best clubs has the best values, and its clubs are the best ones for them.
		values, e = strategy.Values(p, b.clubs)
		gives(t, "of the best clubs", values, e, b.values)
		clubs, e := strategy.Greedy(p, b.values)
		gives(t, "for the best values", clubs, e, b.clubs)
		is(t, "they are checked", strategy.CheckBest(p, b.values), api.OK)
	}
	is(t, "often better", better > 300, true)
}

func TestP9_6StrokesGainedAddUp(t *testing.T) {
	random := rand.New(rand.NewSource(17))
	holed := 0
	for range 1000 {
		p := randomProcess(random, 1+random.Intn(8), 3, 1+random.Intn(5))
		values := randomValues(random, len(p.States))
		l := randomLog(random, p, 1+random.Intn(99))
		is(t, "a log", strategy.CheckLog(p, l), api.OK)
		gained, e := strategy.Gained(p, values, l)
		sum, taken := new(big.Rat), 0
		for i, g := range bigOfAll(ok(t, gained, e)) {
			sum.Add(sum, g)
			taken += 1 + l[i].Penalty
		}
		want := bigOf(values[l[0].From])
		if last := l[len(l)-1].To; last >= 0 {
			want.Sub(want, bigOf(values[last]))
		} else {
			holed++
		}
		want.Sub(want, big.NewRat(int64(taken), 1))
		is(t, fmt.Sprint(values, l), ratOf(sum), ratOf(want))
	}
	is(t, "often into the hole", holed > 300, true)
}

func TestP9_6ScoresAreAtMostTheValue(t *testing.T) {
	random := rand.New(rand.NewSource(18))
	near := 0
	for n := range 200 {
		p, plan := someProcess(random, n%100 == 0)
		values, e := strategy.Values(p, plan)
		state := random.Intn(len(p.States))
		value := bigOf(ok(t, values, e)[state])
		scores, e := strategy.Scores(p, plan, state, 60)
		mean, sum := new(big.Rat), new(big.Rat)
		for strokes, chance := range bigOfAll(ok(t, scores, e)) {
			is(t, "a chance", chance.Sign() >= 0, true)
			sum.Add(sum, chance)
			mean.Add(mean, chance.Mul(chance, big.NewRat(int64(strokes), 1)))
		}
		is(t, "the sum", sum.Cmp(big.NewRat(1, 1)) <= 0, true)
		is(t, fmt.Sprint(p, plan, state), mean.Cmp(value) <= 0, true)
		if rest, _ := new(big.Rat).Sub(value, mean).Float64(); rest < 0.001 {
			near++
		}
	}
	is(t, "often nearly all", near > 25, true)
}

func TestP9_6OddsAddUp(t *testing.T) {
	random := rand.New(rand.NewSource(19))
	for range 400 {
		o, e := strategy.Contest(randomChances(random, 1+random.Intn(9)), randomChances(random, 1+random.Intn(9)))
		is(t, "a contest", strategy.CheckOdds(ok(t, o, e)), api.OK)
		l := append(randomList(random, random.Intn(36)), o)
		match, e := strategy.Match(l, random.Intn(73)-36)
		is(t, "a match", strategy.CheckOdds(ok(t, match, e)), api.OK)
		leads, e := strategy.Lead(l)
		sum := new(big.Rat)
		for _, c := range ok(t, leads, e) {
			is(t, "a chance", bigOf(c.Weight).Sign(), 1)
			sum.Add(sum, bigOf(c.Weight))
		}
		is(t, "the leads", ratOf(sum), "1")
	}
}

// turned returns the odds of the other side.
func turned(o strategy.Odds) strategy.Odds {
	return strategy.Odds{Won: o.Lost, Halved: o.Halved, Lost: o.Won}
}

func TestP9_6MatchesCanBeTurnedRound(t *testing.T) {
	random := rand.New(rand.NewSource(20))
	for range 250 {
		l, lead := randomList(random, random.Intn(37)), random.Intn(73)-36
		var other []strategy.Odds
		for _, o := range l {
			other = append(other, turned(o))
		}
		match, e := strategy.Match(l, lead)
		round, e2 := strategy.Match(other, -lead)
		gives(t, fmt.Sprint(l, lead), ok(t, round, e2), e, turned(match))
		leads, e := strategy.Lead(l)
		back, e2 := strategy.Lead(other)
		slices.Reverse(ok(t, back, e2))
		for i := range back {
			back[i].Value = -back[i].Value
		}
		gives(t, "the leads", back, e, leads)
		a, b := randomChances(random, 1+random.Intn(9)), randomChances(random, 1+random.Intn(9))
		contest, e := strategy.Contest(a, b)
		against, e2 := strategy.Contest(b, a)
		gives(t, "a contest", ok(t, against, e2), e, turned(contest))
	}
}

func TestP9_6NoFixedChoicesAreBetter(t *testing.T) {
	random := rand.New(rand.NewSource(21))
	less, equal := 0, 0
	for range 500 {
		l, lead := randomChoices(random, 1+random.Intn(pick(random, 3, 36)), 1+random.Intn(8)), random.Intn(5)-2
		r, e := risk(l, lead)
		greatest := bigOf(ok(t, r, e).value)
		var fixed []strategy.Odds
		var only [][]strategy.Odds
		for _, choices := range l {
			fixed = append(fixed, pick(random, choices...))
			only = append(only, fixed[len(fixed)-1:])
		}
		match, e := strategy.Match(fixed, lead)
		o := ok(t, match, e)
		value := counts{bigOf(o.Won), bigOf(o.Halved), bigOf(o.Lost)}.value()
		switch value.Cmp(greatest) {
		case -1:
			less++
		case 0:
			equal++
		case 1:
			t.Errorf("%v, %v: %v is greater than %v", fixed, lead, value, greatest)
		}
		// Without another choice the value is that of the match.
		alone, e := risk(only, lead)
		gives(t, "alone", alone, e, risked{ratOf(value), 0})
	}
	is(t, "often both", less > 150 && equal > 25, true)
}

// anyQuestion spoils some arguments of a question without regard to what they mean.
func anyQuestion(random *rand.Rand, q question) question {
	extremes := []int{math.MinInt, math.MinInt + 1, -1000000000, -999999999, -37, -36, -2, -1, 0, 0, 1, 1, 2, 3, 8, 9, 10, 23, 24, 25, 36, 37, 60, 61, 99, 999999999, 1000000000, math.MaxInt - 1, math.MaxInt}
	number := func() int { return pick(random, extremes...) }
	word := func() string { return pick(random, "", " ", "x", "s0", "c0", "\xff", strings.Repeat("a", 5000)) }
	rat := func() api.Rat {
		return api.Rat(pick(random, "", "0", "1", "-1", "1/2", "-1/3", "1/65536", "3/131072", "2/4", "1/0", "-0", "x", nines(600), "1/"+nines(600), nines(601), "\xff", strings.Repeat("1/", 2000)))
	}
	rats := func() []api.Rat {
		var l []api.Rat
		for range random.Intn(4) {
			l = append(l, rat())
		}
		return l
	}
	someOdds := func() []strategy.Odds {
		var l []strategy.Odds
		for range random.Intn(4) {
			l = append(l, pick(random, strategy.Odds{Won: rat(), Halved: rat(), Lost: rat()}, odds("0 1 0")[0]))
		}
		return l
	}
	rows := func() []api.Chance {
		var l []api.Chance
		for range random.Intn(4) {
			l = append(l, api.Chance{Value: number(), Weight: rat()})
		}
		return l
	}
	moves := func() []strategy.Move {
		var l []strategy.Move
		for range random.Intn(4) {
			l = append(l, strategy.Move{To: number(), Penalty: number(), Chance: rat()})
		}
		return l
	}
	states := q.process.States
	switch random.Intn(9) {
	case 0:
		i := random.Intn(len(states) + 1)
		q.process.States = slices.Insert(states, i, strategy.State{Name: word(), Clubs: []strategy.Club{{Name: word(), Moves: moves()}}})
	case 1:
		s := &states[random.Intn(len(states))]
		s.Clubs = append(s.Clubs, strategy.Club{Name: word(), Moves: moves()})
		q.hole = q.process
	case 2:
		q.process.States = states[:len(states)/2]
		q.hole = q.process
	case 3:
		q.plan, q.values, q.least = []int{number(), number()}, rats(), rats()
	case 4:
		q.state, q.club, q.start, q.most, q.lead = number(), number(), number(), number(), number()
	case 5:
		q.log = append(q.log, strategy.Stroke{From: number(), To: number(), Penalty: number()})
	case 6:
		q.a, q.b = rows(), rows()
	case 7:
		q.odds, q.list = strategy.Odds{Won: rat(), Halved: rat(), Lost: rat()}, someOdds()
	case 8:
		q.choices = append(q.choices, someOdds())
	}
	return q
}

// randomQuestion returns a question that is mostly answered without errors.
func randomQuestion(random *rand.Rand) question {
	q := fresh()
	q.process, q.plan = someProcess(random, false)
	q.hole = smallProcess(random)
	q.values = randomValues(random, len(q.process.States))
	q.least, _, _ = strategy.Best(q.process)
	q.state, q.club = random.Intn(len(q.process.States)), random.Intn(2)
	q.log = randomLog(random, q.process, 10)
	q.start, q.most = random.Intn(len(q.process.States)), random.Intn(9)
	q.a, q.b = randomChances(random, 1+random.Intn(6)), randomChances(random, 1+random.Intn(6))
	q.odds, q.list = randomOdds(random), randomList(random, random.Intn(6))
	q.choices, q.lead = randomChoices(random, random.Intn(6), 4), random.Intn(7)-3
	return q
}

// Whatever the arguments are, each function returns.
func TestP1AllArguments(t *testing.T) {
	random := rand.New(rand.NewSource(22))
	for range 2500 {
		q := randomQuestion(random)
		for range 1 + random.Intn(3) {
			if len(q.process.States) > 0 {
				q = anyQuestion(random, q)
			}
		}
		answers(q)
	}
	answers(question{})
	const great = 100000
	many := strategy.Process{States: make([]strategy.State, great)}
	answers(question{
		process: many, hole: many, plan: make([]int, great), values: make([]api.Rat, great), least: make([]api.Rat, great),
		log: make([]strategy.Stroke, great), a: make([]api.Chance, great), b: make([]api.Chance, great),
		list: make([]strategy.Odds, great), choices: make([][]strategy.Odds, great),
	})
	few := fresh()
	few.plan, few.values, few.least, few.log = make([]int, great), make([]api.Rat, great), make([]api.Rat, great), make([]strategy.Stroke, great)
	few.hole.States[0].Clubs = make([]strategy.Club, great)
	few.choices = [][]strategy.Odds{make([]strategy.Odds, great)}
	answers(few)
	few.process.States[0].Clubs[0].Moves = make([]strategy.Move, great)
	few.hole.States[0].Clubs = []strategy.Club{{Name: strings.Repeat("a", great), Moves: []strategy.Move{{Chance: api.Rat(strings.Repeat("1", great))}}}}
	few.odds.Won = api.Rat(strings.Repeat("1", great))
	answers(few)
}

// Arguments remain as they were, and the same call has the same results.
func TestP1ArgumentsRemain(t *testing.T) {
	for seed := range int64(300) {
		again := func() question { return randomQuestion(rand.New(rand.NewSource(seed))) }
		q := again()
		before := answers(q)
		is(t, "the arguments", q, again())
		for i, a := range answers(q) {
			is(t, "the same results", a, before[i])
		}
	}
}

// region is memory that a list has, also behind its end.
type region struct {
	from, to uintptr
}

// regions returns the memory of all lists in a value.
func regions(v reflect.Value) []region {
	var l []region
	switch v.Kind() {
	case reflect.Slice:
		size := uintptr(v.Cap()) * v.Type().Elem().Size()
		if size > 0 {
			l = append(l, region{v.Pointer(), v.Pointer() + size})
		}
		for i := range v.Len() {
			l = append(l, regions(v.Index(i))...)
		}
	case reflect.Struct:
		for i := range v.NumField() {
			l = append(l, regions(v.Field(i))...)
		}
	case reflect.Interface:
		return regions(v.Elem())
	}
	return l
}

// Results share no memory with arguments, or with each other.
func TestP1ResultsShareNothing(t *testing.T) {
	random := rand.New(rand.NewSource(23))
	for i := range 300 {
		q := fresh()
		if i > 0 {
			q = randomQuestion(random)
		}
		arguments := regions(reflect.ValueOf(q))
		for _, a := range answers(q) {
			results := regions(reflect.ValueOf(a.value))
			for j, r := range results {
				for _, other := range append(slices.Clone(arguments), results[j+1:]...) {
					if r.from < other.to && other.from < r.to {
						t.Errorf("%s has a result that shares memory", a.name)
					}
				}
			}
		}
	}
}
