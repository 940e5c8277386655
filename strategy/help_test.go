package strategy_test

import (
	"fmt"
	"math/big"
	"math/rand"
	"reflect"
	"slices"
	"strconv"
	"strings"
	"testing"

	"niblick/api"
	"niblick/card"
	"niblick/strategy"
)

// same compares values; nil and empty lists are equal.
func same(a, b reflect.Value) bool {
	switch a.Kind() {
	case reflect.Slice:
		if a.Len() != b.Len() {
			return false
		}
		for i := range a.Len() {
			if !same(a.Index(i), b.Index(i)) {
				return false
			}
		}
		return true
	case reflect.Struct:
		for i := range a.NumField() {
			if !same(a.Field(i), b.Field(i)) {
				return false
			}
		}
		return true
	case reflect.Interface:
		return same(a.Elem(), b.Elem())
	}
	return a.Equal(b)
}

// alike reports whether two values of one type are equal.
func alike[T any](a, b T) bool {
	return same(reflect.ValueOf(&a).Elem(), reflect.ValueOf(&b).Elem())
}

// is compares a result with what the document requires.
func is[T any](t *testing.T, what string, got, want T) {
	t.Helper()
	if !alike(got, want) {
		t.Errorf("%s: got %v, want %v", what, got, want)
	}
}

// gives checks a result without an error.
func gives[T any](t *testing.T, what string, got T, e api.Errno, want T) {
	t.Helper()
	if e != api.OK || !alike(got, want) {
		t.Errorf("%s: got %v and the error %d, want %v", what, got, e, want)
	}
}

// fails checks an error, and that the result beside it is the zero value.
func fails[T any](t *testing.T, what string, got T, e, want api.Errno) {
	t.Helper()
	if e != want || !alike(got, *new(T)) {
		t.Errorf("%s: got %v and the error %d, want the error %d alone", what, got, e, want)
	}
}

// ok returns a result that has no error.
func ok[T any](t *testing.T, got T, e api.Errno) T {
	t.Helper()
	if e != api.OK {
		t.Fatalf("the error %d", e)
	}
	return got
}

// planned is the result of Best.
type planned struct {
	values []api.Rat
	clubs  []int
}

// risked is the result of Risk.
type risked struct {
	value  api.Rat
	choice int
}

func best(p strategy.Process) (planned, api.Errno) {
	values, clubs, e := strategy.Best(p)
	return planned{values, clubs}, e
}

func risk(l [][]strategy.Odds, lead int) (risked, api.Errno) {
	value, choice, e := strategy.Risk(l, lead)
	return risked{value, choice}, e
}

// number reads an integer.
func number(word string) int {
	n, err := strconv.Atoi(word)
	if err != nil {
		panic(err)
	}
	return n
}

// process returns a process in words: a line for each state with its name and its clubs, such as chip=-1:1/4,2:1/2,1+1:1/4 (places, penalty strokes, chances).
func process(lines ...string) strategy.Process {
	var p strategy.Process
	for _, line := range lines {
		words := strings.Fields(line)
		s := strategy.State{Name: words[0]}
		for _, word := range words[1:] {
			name, moves, _ := strings.Cut(word, "=")
			c := strategy.Club{Name: name}
			for _, move := range strings.Split(moves, ",") {
				place, chance, _ := strings.Cut(move, ":")
				to, penalty, more := strings.Cut(place, "+")
				m := strategy.Move{To: number(to), Chance: api.Rat(chance)}
				if more {
					m.Penalty = number(penalty)
				}
				c.Moves = append(c.Moves, m)
			}
			s.Clubs = append(s.Clubs, c)
		}
		p.States = append(p.States, s)
	}
	return p
}

// sample returns the process of the chapter's examples.
func sample() strategy.Process {
	return process(
		"tee drive=1:1/2,2:1/2 iron=2:1",
		"rough chip=-1:1/4,2:1/2,1+1:1/4",
		"green putt=-1:1/2,2:1/2")
}

// numbers returns numbers in words.
func numbers(words string) []api.Rat {
	var l []api.Rat
	for _, word := range strings.Fields(words) {
		l = append(l, api.Rat(word))
	}
	return l
}

// strokes returns a log in words, such as 0>1 and 1>1+1: from where to where, and penalty strokes.
func strokes(words string) []strategy.Stroke {
	var l []strategy.Stroke
	for _, word := range strings.Fields(words) {
		from, rest, _ := strings.Cut(word, ">")
		to, penalty, more := strings.Cut(rest, "+")
		s := strategy.Stroke{From: number(from), To: number(to)}
		if more {
			s.Penalty = number(penalty)
		}
		l = append(l, s)
	}
	return l
}

// odds returns odds in words: a line for each hole.
func odds(lines ...string) []strategy.Odds {
	var l []strategy.Odds
	for _, line := range lines {
		n := numbers(line)
		l = append(l, strategy.Odds{Won: n[0], Halved: n[1], Lost: n[2]})
	}
	return l
}

// chances returns a table of chances in words, such as 3:1/2 4:1/2.
func chances(words string) []api.Chance {
	var l []api.Chance
	for _, word := range strings.Fields(words) {
		value, weight, _ := strings.Cut(word, ":")
		l = append(l, api.Chance{Value: number(value), Weight: api.Rat(weight)})
	}
	return l
}

// ratOf returns a number of the library as a text.
func ratOf(x *big.Rat) api.Rat {
	return api.Rat(strings.TrimSuffix(x.String(), "/1"))
}

// bigOf returns a number for the library.
func bigOf(a api.Rat) *big.Rat {
	x, is := new(big.Rat).SetString(string(a))
	if !is {
		panic(a)
	}
	return x
}

func bigOfAll(l []api.Rat) []*big.Rat {
	var all []*big.Rat
	for _, a := range l {
		all = append(all, bigOf(a))
	}
	return all
}

func ratOfAll(l []*big.Rat) []api.Rat {
	var all []api.Rat
	for _, x := range l {
		all = append(all, ratOf(x))
	}
	return all
}

// fits reports whether a number has no more than MaxDigits digits above and below.
func fits(x *big.Rat) bool {
	return len(strings.TrimPrefix(x.Num().String(), "-")) <= api.MaxDigits && len(x.Denom().String()) <= api.MaxDigits
}

// nines returns the greatest number with so many digits.
func nines(digits int) string {
	return strings.Repeat("9", digits)
}

// question is what the functions are asked.
type question struct {
	process, hole strategy.Process
	plan          []int
	values, least []api.Rat
	state, club   int
	log           []strategy.Stroke
	start, most   int
	a, b          []api.Chance
	odds          strategy.Odds
	list          []strategy.Odds
	choices       [][]strategy.Odds
	lead          int
}

// answer is what a function returned; uses are the words of the arguments, and of what else can be wrong with them.
type answer struct {
	name, uses string
	value      any
	e          api.Errno
}

// answered makes an answer of what a function returned.
func answered[T any](name, uses string) func(x T, e api.Errno) answer {
	return func(x T, e api.Errno) answer { return answer{name, uses, x, e} }
}

// answers asks all functions.
func answers(q question) []answer {
	return []answer{
		{"CheckProcess", "process", 0, strategy.CheckProcess(q.process)},
		{"CheckProcess", "hole", 0, strategy.CheckProcess(q.hole)},
		{"CheckPlan", "process plan", 0, strategy.CheckPlan(q.process, q.plan)},
		answered[[]int]("Endless", "process")(strategy.Endless(q.process)),
		answered[[]int]("Ends", "process plan")(strategy.Ends(q.process, q.plan)),
		answered[[]api.Rat]("Values", "process plan open")(strategy.Values(q.process, q.plan)),
		answered[api.Rat]("Mean", "process values state club")(strategy.Mean(q.process, q.values, q.state, q.club)),
		answered[[]int]("Greedy", "process values")(strategy.Greedy(q.process, q.values)),
		answered[planned]("Best", "hole end")(best(q.hole)),
		{"CheckBest", "process least proof", 0, strategy.CheckBest(q.process, q.least)},
		{"CheckLog", "process log", 0, strategy.CheckLog(q.process, q.log)},
		answered[[]api.Rat]("Gained", "process values log")(strategy.Gained(q.process, q.values, q.log)),
		answered[[]api.Rat]("Scores", "process plan start most")(strategy.Scores(q.process, q.plan, q.start, q.most)),
		answered[strategy.Odds]("Contest", "a b")(strategy.Contest(q.a, q.b)),
		{"CheckOdds", "odds", 0, strategy.CheckOdds(q.odds)},
		answered[[]api.Chance]("Lead", "list")(strategy.Lead(q.list)),
		answered[strategy.Odds]("Match", "list lead")(strategy.Match(q.list, q.lead)),
		answered[risked]("Risk", "choices lead")(risk(q.choices, q.lead)),
	}
}

// fresh returns a question that all functions answer without an error, some of them at a limit.
func fresh() question {
	p := func() strategy.Process {
		return process(
			"tee drive=1:1/2,2+9:1/2 stay=0:1 iron=2:1",
			"rough chip=-1:1/4,2:16383/65536,1+1:1/2,-1+9:1/65536 back=0:1/2,1:1/2",
			"green putt=-1:1/2,2:1/2 hope=2:65535/65536,-1:1/65536")
	}
	return question{
		process: p(), hole: p(),
		plan: []int{2, 1, 0}, values: numbers("0 -7/3 12"), least: numbers("3 131079/32768 2"), state: 2, club: 1,
		log:   strokes("0>1 1>1+1 1>-1+9"),
		start: 2, most: 3,
		a: chances("-999999999:1/4 3:1/2 999999999:1/4"), b: chances("0:1/2 3:1/2"),
		odds: strategy.Odds{Won: "1/3", Halved: "0", Lost: "2/3"},
		list: odds("1/3 0 2/3", "1 0 0", "1/2 1/4 1/4"), choices: [][]strategy.Odds{odds("1/3 0 2/3"), odds("0 1 0", "1/2 1/4 1/4")},
		lead: -1,
	}
}

// isEmpty reports whether a value is the zero value, or has empty lists.
func isEmpty(x any) bool {
	v := reflect.ValueOf(x)
	return same(v, reflect.Zero(v.Type()))
}

// expect checks the errors of all answers, and that each result beside one is the zero value.
func expect(t *testing.T, what string, q question, want func(a answer) api.Errno) {
	t.Helper()
	for _, a := range answers(q) {
		if e := want(a); a.e != e {
			t.Errorf("%s: %s has the error %d, want %d", what, a.name, a.e, e)
		}
		if a.e != api.OK && !isEmpty(a.value) {
			t.Errorf("%s: %s has the result %v beside an error", what, a.name, a.value)
		}
	}
}

// flaw spoils an argument of a question that is right.
type flaw struct {
	of    string
	name  string
	spoil func(q *question)
	want  api.Errno
}

// flawOf makes flaws of one kind of argument.
func flawOf(of string) func(name string, spoil func(q *question), want api.Errno) flaw {
	return func(name string, spoil func(q *question), want api.Errno) flaw {
		return flaw{of, name + " of " + of, spoil, want}
	}
}

// meet reports whether a function has two kinds of arguments.
func meet(of, other string) bool {
	return slices.ContainsFunc(answers(question{}), func(a answer) bool {
		uses := strings.Fields(a.uses)
		return slices.Contains(uses, of) && slices.Contains(uses, other)
	})
}

// inOrder checks that each flaw has its error in all functions with this argument, and that of two flaws in one function the one that is named first decides.
func inOrder(t *testing.T, flaws ...flaw) {
	t.Helper()
	try := func(what string, q question, spoiled ...flaw) {
		t.Helper()
		expect(t, what, q, func(a answer) api.Errno {
			for _, f := range spoiled {
				if slices.Contains(strings.Fields(a.uses), f.of) {
					return f.want
				}
			}
			return api.OK
		})
	}
	for i, f := range flaws {
		q := fresh()
		f.spoil(&q)
		try(f.name, q, f)
		for _, later := range flaws[i+1:] {
			if !meet(f.of, later.of) {
				continue
			}
			q := fresh()
			later.spoil(&q)
			f.spoil(&q)
			try(f.name+" and "+later.name, q, f, later)
		}
	}
}

// pick returns an element at random.
func pick[T any](random *rand.Rand, l ...T) T {
	return l[random.Intn(len(l))]
}

// parted returns so many numbers above 0 with a sum.
func parted(random *rand.Rand, sum, parts int) []int {
	cuts := map[int]bool{0: true, sum: true}
	for len(cuts) <= parts {
		cuts[1+random.Intn(sum-1)] = true
	}
	var l, ends []int
	for cut := range cuts {
		ends = append(ends, cut)
	}
	slices.Sort(ends)
	for i, end := range ends[1:] {
		l = append(l, end-ends[i])
	}
	return l
}

// ratio returns a fraction in lowest terms.
func ratio(num, den int) api.Rat {
	x, e := card.Of(num, den)
	if e != api.OK {
		panic(e)
	}
	return x
}

// randomClub returns a club with so many moves; some clubs never lead into the hole.
func randomClub(random *rand.Rand, name string, states, moves int) strategy.Club {
	c := strategy.Club{Name: name}
	lowest, penalties := pick(random, -1, -1, 0), pick(random, 1, 3, 10)
	for len(c.Moves) < moves {
		m := strategy.Move{To: lowest + random.Intn(states-lowest), Penalty: random.Intn(penalties)}
		if !slices.Contains(c.Moves, m) {
			c.Moves = append(c.Moves, m)
		} else if penalties < 10 {
			penalties++
		}
	}
	whole := pick(random, 64, 256, 65536)
	for i, parts := range parted(random, whole, moves) {
		c.Moves[i].Chance = ratio(parts, whole)
	}
	return c
}

// randomProcess returns a process with so many states, and at most so many clubs and moves.
func randomProcess(random *rand.Rand, states, clubs, moves int) strategy.Process {
	var p strategy.Process
	for i := range states {
		s := strategy.State{Name: fmt.Sprint("s", i)}
		for k := range 1 + random.Intn(clubs) {
			s.Clubs = append(s.Clubs, randomClub(random, fmt.Sprint("c", k), states, 1+random.Intn(moves)))
		}
		p.States = append(p.States, s)
	}
	return p
}

// smallProcess returns a process that is small enough for slow functions.
func smallProcess(random *rand.Rand) strategy.Process {
	return randomProcess(random, 1+random.Intn(4), 3, 1+random.Intn(3))
}

// fullProcess returns a process at all limits.
func fullProcess(random *rand.Rand) strategy.Process {
	var p strategy.Process
	for i := range 24 {
		s := strategy.State{Name: fmt.Sprint("s", i)}
		for k := range 8 {
			c := randomClub(random, fmt.Sprint("c", k), 24, 32)
			s.Clubs = append(s.Clubs, c)
		}
		p.States = append(p.States, s)
	}
	return p
}

func randomPlan(random *rand.Rand, p strategy.Process) []int {
	var plan []int
	for _, s := range p.States {
		plan = append(plan, random.Intn(len(s.Clubs)))
	}
	return plan
}

// randomValues returns values, some of them negative, and some of them equal.
func randomValues(random *rand.Rand, n int) []api.Rat {
	var l []api.Rat
	for range n {
		l = append(l, ratio(random.Intn(41)-10, 1+random.Intn(4)))
	}
	return l
}

// randomLog returns strokes that may have been played.
func randomLog(random *rand.Rand, p strategy.Process, most int) []strategy.Stroke {
	var l []strategy.Stroke
	for at := random.Intn(len(p.States)); at >= 0 && len(l) < most; {
		m := pick(random, pick(random, p.States[at].Clubs...).Moves...)
		l = append(l, strategy.Stroke{From: at, To: m.To, Penalty: m.Penalty})
		at = m.To
	}
	return l
}

// randomOdds returns odds with small numbers, often with a 0.
func randomOdds(random *rand.Rand) strategy.Odds {
	whole := pick(random, 1, 2, 3, 4, 5, 12, 64)
	won := random.Intn(whole + 1)
	halved := random.Intn(whole - won + 1)
	l := []int{won, halved, whole - won - halved}
	random.Shuffle(3, func(i, k int) { l[i], l[k] = l[k], l[i] })
	return strategy.Odds{Won: ratio(l[0], whole), Halved: ratio(l[1], whole), Lost: ratio(l[2], whole)}
}

func randomList(random *rand.Rand, holes int) []strategy.Odds {
	var l []strategy.Odds
	for range holes {
		l = append(l, randomOdds(random))
	}
	return l
}

func randomChoices(random *rand.Rand, holes, most int) [][]strategy.Odds {
	var l [][]strategy.Odds
	for range holes {
		l = append(l, randomList(random, 1+random.Intn(most)))
	}
	return l
}

// randomChances returns a table of chances with so many rows.
func randomChances(random *rand.Rand, rows int) []api.Chance {
	var l []api.Chance
	whole := pick(random, 64, 128, 65536)
	value := random.Intn(8) - 4
	for _, parts := range parted(random, whole, rows) {
		l = append(l, api.Chance{Value: value, Weight: ratio(parts, whole)})
		value += 1 + random.Intn(3)
	}
	return l
}
