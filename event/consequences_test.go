package event_test

import (
	"fmt"
	"math"
	"math/rand"
	"reflect"
	"slices"
	"strings"
	"testing"

	"niblick/api"
	"niblick/event"
)

func TestP7_7AcceptedByTheOrderAlone(t *testing.T) {
	random := rand.New(rand.NewSource(20))
	for range 500 {
		l, key := randomEntries(random, 1+random.Intn(15)), 1+random.Intn(1000000)
		rule, places := pick(random, "ballot", "index"), random.Intn(16)
		got, e := accept(l, places, rule, key)
		ok(t, got, e)
		more, e := accept(l, places+1, rule, key)
		ok(t, more, e)
		is(t, "one place more", more.first[:len(got.first)], got.first)
		is(t, "the same order", slices.Concat(more.first, more.second), slices.Concat(got.first, got.second))
		if len(got.second) == 0 {
			continue
		}
		// A reserve with another name, and the last place by the index.
		changed := slices.Clone(l)
		last := got.second[len(got.second)-1]
		changed[last].Player = "other"
		if !changed[last].Exempt {
			changed[last].Index = "54"
		}
		again, e := accept(changed, places, rule, key)
		gives(t, "another reserve", again.first, e, got.first)
	}
	// By different indices nobody who is accepted hangs on a reserve that is not there.
	for range 300 {
		var l []event.Entry
		for i, index := range random.Perm(60)[:12] {
			l = append(l, event.Entry{Player: names(12)[i], Index: api.Rat(fmt.Sprint(index - 6)), Exempt: random.Intn(4) == 0})
		}
		got, e := accept(l, 5, "index", 1+random.Intn(1000))
		ok(t, got, e)
		less := slices.DeleteFunc(slices.Clone(l), func(x event.Entry) bool { return x.Player == l[got.second[0]].Player })
		again, e := accept(less, 5, "index", 1+random.Intn(1000))
		ok(t, again, e)
		for i, n := range again.first {
			is(t, "without a reserve", less[n], l[got.first[i]])
		}
	}
}

func TestP7_7SeedsMeetLate(t *testing.T) {
	for n := 2; n <= 200; n++ {
		l, e := event.Bracket(n)
		rounds := 0
		for slots := len(ok(t, l, e)); slots > 1; slots /= 2 {
			rounds++
		}
		last, e := event.Meet(n, 1, 2)
		gives(t, fmt.Sprint("seeds 1 and 2 of ", n), last, e, rounds)
		for a := 1; a <= min(n, 4); a++ {
			for b := 1; b < a; b++ {
				round, e := event.Meet(n, a, b)
				is(t, fmt.Sprint("seeds ", a, " and ", b, " of ", n), ok(t, round, e) >= rounds-1, true)
				other, e := event.Meet(n, b, a)
				gives(t, "the other way round", other, e, round)
			}
		}
	}
}

func TestP7_7CutOfMorePlaces(t *testing.T) {
	random := rand.New(rand.NewSource(21))
	more := 0
	for range 2000 {
		l := randomField(random, 1+random.Intn(10), 2)
		r := event.Rule{After: 1 + random.Intn(2), Places: 1 + random.Intn(8), Within: random.Intn(5) - 1}
		got, e := cut(l, r)
		if e != api.OK {
			continue
		}
		r.Places += 1 + random.Intn(3)
		other, e := cut(l, r)
		ok(t, other, e)
		is(t, "the cut line", other.line >= got.line, true)
		for _, i := range got.in {
			is(t, "whoever remained", slices.Contains(other.in, i), true)
		}
		if len(other.in) > len(got.in) {
			more++
		}
	}
	is(t, "often more", more > 100, true)
}

func TestP7_7Prizes(t *testing.T) {
	random := rand.New(rand.NewSource(22))
	for range 2000 {
		l := randomField(random, random.Intn(12), 1+random.Intn(3))
		purse := randomPurse(random, random.Intn(14))
		won, e := event.Prizes(l, purse)
		ok(t, won, e)
		professionals := 0
		for _, line := range l {
			if !line.Amateur && isRanked(line) {
				professionals++
			}
		}
		is(t, "the sum of the prizes", sum(won), sum(purse[:min(professionals, len(purse))]))
		places, e := event.Leaderboard(l)
		before := math.MaxInt
		least := math.MaxInt
		rank := 0
		for _, p := range ok(t, places, e) {
			if l[p.Line].Amateur {
				is(t, "the prize of an amateur", won[p.Line], 0)
				continue
			}
			if p.Rank != rank {
				before, least, rank = least, math.MaxInt, p.Rank
			}
			is(t, "no more than those with a better rank", won[p.Line] <= before, true)
			least = min(least, won[p.Line])
		}
	}
}

// A purse that is divided by weights is one that prizes take.
func TestP7_7PurseIsAPurse(t *testing.T) {
	random := rand.New(rand.NewSource(23))
	for range 500 {
		weights := randomPurse(random, 1+random.Intn(20))
		if weights[0] == 0 {
			continue
		}
		total := random.Intn(pick(random, 10, 1000, 1000000000))
		purse, e := event.Purse(total, weights)
		is(t, "the sum", sum(ok(t, purse, e)), total)
		won, e := event.Prizes(field(names(20)...), purse)
		is(t, "all of it is shared", sum(ok(t, won, e)), total)
	}
}

func TestP7_7SameCorrection(t *testing.T) {
	random := rand.New(rand.NewSource(24))
	tried := 0
	for range 2000 {
		l := randomActs(random)
		at := slices.IndexFunc(l, func(a event.Act) bool { return a.Kind == "score" })
		if at < 0 {
			continue
		}
		// The last score of this player and round, again at the end.
		h := history(l)
		at = h.recorded(l[at].Player, l[at].Round)
		if at < 0 {
			continue
		}
		tried++
		again := append(slices.Clone(l), l[at])
		changed, e := event.Changed(l, again, []int{1001, 500, 20})
		gives(t, "what changes", changed, e, nil)
		before, e := replay(l)
		ok(t, before, e)
		after, e := replay(again)
		gives(t, "the lines", after.standing.Lines, e, before.standing.Lines)
	}
	is(t, "often tried", tried > 1000, true)
}

func TestP7_7OrderOfActs(t *testing.T) {
	random := rand.New(rand.NewSource(25))
	moves := func(a event.Act) bool { return a.Kind == "score" || a.Kind == "out" || a.Kind == "dis" }
	swapped := 0
	for range 1000 {
		l := randomActs(random)
		other := slices.Clone(l)
		from := upTo(len(l))
		for range 100 {
			if len(l) < 2 {
				break
			}
			i := random.Intn(len(l) - 1)
			a, b := other[i], other[i+1]
			if moves(a) && moves(b) && (a.Player != b.Player || a.Round != b.Round) {
				other[i], other[i+1] = b, a
				from[i], from[i+1] = from[i+1], from[i]
				swapped++
			}
		}
		before, e := replay(l)
		ok(t, before, e)
		after, e := replay(other)
		gives(t, "the lines", after.standing.Lines, e, before.standing.Lines)
		var aside []int
		for _, at := range ok(t, after, e).standing.Aside {
			aside = append(aside, from[at])
		}
		slices.Sort(aside)
		is(t, "the same acts are set aside", aside, before.standing.Aside)
	}
	is(t, "often exchanged", swapped > 5000, true)
}

// The functions agree: the field of a standing is one, and its cuts are those of Miss.
func TestP7_7StandingsAreFields(t *testing.T) {
	random := rand.New(rand.NewSource(26))
	cuts := 0
	for range 1000 {
		l := slices.DeleteFunc(randomActs(random), func(a event.Act) bool { return a.Kind == "cut" })
		s, _, e := event.Replay(l)
		ok(t, s, e)
		is(t, "a field", event.CheckField(s.Lines), api.OK)
		places := 1 + random.Intn(4)
		after, _, e := event.Replay(append(l, event.Act{Kind: "cut", Round: 1, Value: places}))
		ok(t, after, e)
		missed, e := event.Miss(s.Lines, event.Rule{After: 1, Places: places, Within: -1})
		if e == api.OK {
			is(t, "the lines after a cut", after.Lines, missed)
			cuts++
		}
	}
	is(t, "often cut", cuts > 200, true)
}

// anyQuestion spoils some arguments of a question without regard to what they mean.
func anyQuestion(random *rand.Rand, q question) question {
	extremes := []int{math.MinInt, math.MinInt + 1, -1000000000, -2, -1, 0, 0, 1, 1, 2, 3, 4, 8, 9, 199, 200, 201, 9999, 10000, 999999999, 1000000000, 2147483646, 2147483647, math.MaxInt}
	number := func() int { return pick(random, extremes...) }
	word := func() string {
		return pick(random, "", " ", "ann", "bob", "cat", "p0", "1", "\xff", "score", "cut", "enter", "void", "out", "index", strings.Repeat("a", 5000), "1/0", "-10", "54")
	}
	numbers := func() []int {
		var l []int
		for range random.Intn(6) {
			l = append(l, number())
		}
		return l
	}
	words := func() []string {
		var l []string
		for range random.Intn(6) {
			l = append(l, word())
		}
		return l
	}
	act := func() event.Act { return event.Act{Kind: word(), Player: word(), Round: number(), Value: number()} }
	switch random.Intn(8) {
	case 0:
		q.entries = append(q.entries, event.Entry{Player: word(), Index: api.Rat(word()), Exempt: true})
	case 1:
		q.n, q.key, q.places, q.rule = number(), number(), number(), word()
	case 2:
		q.in, q.reserves, q.gone, q.totals = numbers(), numbers(), numbers(), numbers()
	case 3:
		q.seeds, q.a, q.b = number(), number(), number()
	case 4:
		q.players, q.slots, q.losers, q.lists = words(), words(), words(), [][]string{words(), words()}
	case 5:
		q.field = append(q.field, event.Line{Player: word(), Scores: numbers(), State: word()})
	case 6:
		q.cut, q.total, q.weights, q.purse = event.Rule{After: number(), Places: number(), Within: number()}, number(), numbers(), numbers()
	case 7:
		q.act, q.acts, q.others = act(), append(q.acts, act()), []event.Act{act(), act()}
	}
	return q
}

// randomQuestion returns a question that is mostly answered without errors.
func randomQuestion(random *rand.Rand) question {
	q := fresh()
	q.entries, q.places, q.rule = randomEntries(random, random.Intn(10)), random.Intn(11), pick(random, "ballot", "index")
	q.n, q.key = random.Intn(20), 1+random.Intn(1000)
	q.seeds = 2 + random.Intn(20)
	q.a, q.b = 1, 1+random.Intn(q.seeds)
	q.field, q.cut.After = randomField(random, random.Intn(8), 2), 1
	q.purse = randomPurse(random, random.Intn(6))
	q.acts, q.others = randomActs(random), randomActs(random)
	return q
}

// Whatever the arguments are, each function returns.
func TestP1AllArguments(t *testing.T) {
	random := rand.New(rand.NewSource(27))
	for range 3000 {
		q := randomQuestion(random)
		for range 1 + random.Intn(3) {
			q = anyQuestion(random, q)
		}
		answers(q)
	}
	answers(question{})
	const great = 100000
	answers(question{
		entries: make([]event.Entry, great), n: great, in: make([]int, great), reserves: upTo(great), gone: upTo(great), totals: upTo(great),
		seeds: great, players: names(great), slots: names(1 << 17), losers: names(great), lists: make([][]string, great),
		field: make([]event.Line, great), weights: make([]int, great), purse: make([]int, great), acts: make([]event.Act, great), others: make([]event.Act, great),
	})
	answers(question{in: upTo(200), gone: slices.Repeat([]int{1}, great), slots: names(256), losers: slices.Repeat(names(256), 1000), field: []event.Line{{Player: "ann", Scores: make([]int, great)}}})
}

// Arguments remain as they were, and the same call has the same results.
func TestP1ArgumentsRemain(t *testing.T) {
	for seed := range int64(500) {
		again := func() question { return randomQuestion(rand.New(rand.NewSource(seed))) }
		q := again()
		before := answers(q)
		is(t, "the arguments", q, again())
		for i, a := range answers(q) {
			is(t, "the same results", a, before[i])
		}
	}
}

// region is memory that a list has, also behind its end.
type region struct {
	from, to uintptr
}

// regions returns the memory of all lists in a value.
func regions(v reflect.Value) []region {
	var l []region
	switch v.Kind() {
	case reflect.Slice:
		size := uintptr(v.Cap()) * v.Type().Elem().Size()
		if size > 0 {
			l = append(l, region{v.Pointer(), v.Pointer() + size})
		}
		for i := range v.Len() {
			l = append(l, regions(v.Index(i))...)
		}
	case reflect.Struct:
		for i := range v.NumField() {
			l = append(l, regions(v.Field(i))...)
		}
	case reflect.Interface:
		return regions(v.Elem())
	}
	return l
}

// Results share no memory with arguments, or with each other.
func TestP1ResultsShareNothing(t *testing.T) {
	random := rand.New(rand.NewSource(29))
	for i := range 200 {
		q := fresh()
		if i > 0 {
			q = randomQuestion(random)
		}
		arguments := regions(reflect.ValueOf(q))
		for _, a := range answers(q) {
			results := regions(reflect.ValueOf(a.value))
			for j, r := range results {
				for _, other := range append(slices.Clone(arguments), results[j+1:]...) {
					if r.from < other.to && other.from < r.to {
						t.Errorf("%s has a result that shares memory", a.name)
					}
				}
			}
		}
	}
}
