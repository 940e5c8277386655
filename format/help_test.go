package format_test

import (
	"math/rand"
	"reflect"
	"slices"
	"strings"
	"testing"

	"niblick/api"
	"niblick/format"
)

// same compares values; nil and empty lists are equal.
func same(a, b reflect.Value) bool {
	switch a.Kind() {
	case reflect.Slice:
		if a.Len() != b.Len() {
			return false
		}
		for i := range a.Len() {
			if !same(a.Index(i), b.Index(i)) {
				return false
			}
		}
		return true
	case reflect.Struct:
		for i := range a.NumField() {
			if !same(a.Field(i), b.Field(i)) {
				return false
			}
		}
		return true
	case reflect.Interface:
		return same(a.Elem(), b.Elem())
	}
	return a.Equal(b)
}

// alike reports whether two values of one type are equal.
func alike[T any](a, b T) bool {
	return same(reflect.ValueOf(&a).Elem(), reflect.ValueOf(&b).Elem())
}

// is compares a result with what the document requires.
func is[T any](t *testing.T, what string, got, want T) {
	t.Helper()
	if !alike(got, want) {
		t.Errorf("%s: got %v, want %v", what, got, want)
	}
}

// gives checks a result without an error.
func gives[T any](t *testing.T, what string, got T, e api.Errno, want T) {
	t.Helper()
	if e != api.OK || !alike(got, want) {
		t.Errorf("%s: got %v and the error %d, want %v", what, got, e, want)
	}
}

// four returns the holes of the chapter's examples.
func four() []api.Hole {
	return []api.Hole{{Par: 4, Index: 2}, {Par: 3, Index: 4}, {Par: 5, Index: 1}, {Par: 4, Index: 3}}
}

// inLine returns holes of par 4 whose stroke indices ascend.
func inLine(n int) []api.Hole {
	var h []api.Hole
	for i := range n {
		h = append(h, api.Hole{Par: 4, Index: i + 1})
	}
	return h
}

// entries returns entries in the words of chapter 1, without repetitions and bars.
func entries(words string) []api.Entry {
	var l []api.Entry
	for _, word := range strings.Fields(words) {
		strokes, mark := wordOf(word)
		l = append(l, api.Entry{Strokes: strokes, Mark: mark})
	}
	return l
}

// nets returns net strokes, in words like those of entries, but also with a minus sign.
func nets(words string) []format.Net {
	var l []format.Net
	for _, word := range strings.Fields(words) {
		strokes, mark := wordOf(word)
		l = append(l, format.Net{Strokes: strokes, Mark: mark})
	}
	return l
}

// wordOf reads an integer, and the mark behind it.
func wordOf(word string) (strokes int, mark string) {
	digits := strings.TrimLeft(word, "-")
	if digits == "" {
		return 0, word
	}
	for digits != "" && '0' <= digits[0] && digits[0] <= '9' {
		strokes, digits = 10*strokes+int(digits[0]-'0'), digits[1:]
	}
	if word[0] == '-' {
		strokes = -strokes
	}
	return strokes, digits
}

func player(name string, handicap int, words string) format.Player {
	return format.Player{Card: api.Card{Player: name, Entries: entries(words)}, Handicap: handicap}
}

// adam and eve are the players A and B of the chapter's examples.
func adam() format.Player { return player("A", 6, "5 4 7 x") }

func eve() format.Player { return player("B", 0, "4 3 6 4") }

// question is what the functions are asked.
type question struct {
	h              []api.Hole
	handicap       int
	field, side    []format.Player
	p, q           format.Player
	a, b           []format.Net
	state          format.State
	two, some      []int
	scores         []int
	count          int
	x, y           []int
	lists, strokes [][]int
}

// answer is what a function returned; uses are the words of the arguments, and of what else can be wrong with them.
type answer struct {
	name, uses string
	values     []any
	e          api.Errno
}

// answers asks all functions.
func answers(q question) []answer {
	var all []answer
	add := func(name, uses string) func(x any, e api.Errno) {
		return func(x any, e api.Errno) { all = append(all, answer{name, uses, []any{x}, e}) }
	}
	two := func(name, uses string) func(x, y any, e api.Errno) {
		return func(x, y any, e api.Errno) { all = append(all, answer{name, uses, []any{x, y}, e}) }
	}
	check := func(name, uses string, e api.Errno) { all = append(all, answer{name, uses, nil, e}) }
	ints := func(name, uses string) func(x []int, e api.Errno) {
		return func(x []int, e api.Errno) { add(name, uses)(x, e) }
	}
	number := func(name, uses string) func(x int, e api.Errno) {
		return func(x int, e api.Errno) { add(name, uses)(x, e) }
	}
	netsOf := func(name, uses string) func(x []format.Net, e api.Errno) {
		return func(x []format.Net, e api.Errno) { add(name, uses)(x, e) }
	}
	statesOf := func(name, uses string) func(x []format.State, e api.Errno) {
		return func(x []format.State, e api.Errno) { add(name, uses)(x, e) }
	}
	f := format.Field{Holes: q.h, Players: q.field}
	ints("Given", "h handicap")(format.Given(q.h, q.handicap))
	check("CheckPlayer", "h p", format.CheckPlayer(q.h, q.p))
	check("CheckField", "h field", format.CheckField(f))
	number("Gross", "h p whole")(format.Gross(q.h, q.p))
	netsOf("Nets", "h p")(format.Nets(q.h, q.p))
	number("Score", "h p whole")(format.Score(q.h, q.p))
	ints("Points", "h p")(format.Points(q.h, q.p))
	ints("Against", "h p")(format.Against(q.h, q.p))
	statesOf("Match", "h p q names")(format.Match(q.h, q.p, q.q))
	statesOf("Sides", "a b holes")(format.Sides(q.a, q.b))
	words, e := format.Describe(q.state)
	add("Describe", "state")(words, e)
	number("Foursome", "two")(format.Foursome(q.two))
	number("Scramble", "some")(format.Scramble(q.some))
	netsOf("Fourball", "h side")(format.Fourball(q.h, q.side))
	netsOf("Aggregate", "h p q names")(format.Aggregate(q.h, q.p, q.q))
	number("Team", "scores count")(format.Team(q.scores, q.count))
	number("Countback", "x y lengths")(format.Countback(q.x, q.y))
	ints("Ranks", "lists")(format.Ranks(q.lists))
	order, ranks, e := format.Leaders(f)
	two("Leaders", "h field")(order, ranks, e)
	left, played, e := format.Playoff(q.strokes)
	two("Playoff", "strokes")(left, played, e)
	return all
}

// fresh returns a question that all functions answer without an error.
func fresh() question {
	return question{
		h: four(), handicap: 99,
		field: []format.Player{adam(), eve(), player("C", -99, "- - - -")},
		side:  []format.Player{adam(), eve(), player("C", 99, "1 99 99c 1c")},
		p:     eve(), q: adam(),
		a: nets("x 4 - 999"), b: nets("-999 4 4 x"),
		state: format.State{Up: 3, To: 2, Over: true},
		two:   []int{-99, 99}, some: []int{99, -99, 3},
		scores: []int{3, -9999, 9999}, count: 3,
		x: []int{-9999, 9999, 1}, y: []int{1, 2, 3},
		lists:   [][]int{{1, 2}, {-9999, 9999}, {3, 4}},
		strokes: [][]int{{1, 99}, {1, 98}, {1, 97}},
	}
}

// copied returns a question that shares nothing with another one.
func copied(q question) question {
	q.h = slices.Clone(q.h)
	q.field, q.side = copiedPlayers(q.field...), copiedPlayers(q.side...)
	q.p, q.q = copiedPlayers(q.p)[0], copiedPlayers(q.q)[0]
	q.a, q.b = slices.Clone(q.a), slices.Clone(q.b)
	q.two, q.some, q.scores = slices.Clone(q.two), slices.Clone(q.some), slices.Clone(q.scores)
	q.x, q.y = slices.Clone(q.x), slices.Clone(q.y)
	q.lists, q.strokes = copiedLists(q.lists), copiedLists(q.strokes)
	return q
}

func copiedPlayers(l ...format.Player) []format.Player {
	l = slices.Clone(l)
	for i := range l {
		l[i].Card.Entries = slices.Clone(l[i].Card.Entries)
	}
	return l
}

func copiedLists(l [][]int) [][]int {
	l = slices.Clone(l)
	for i := range l {
		l[i] = slices.Clone(l[i])
	}
	return l
}

// answered checks the errors of all answers, and that each result beside one is the zero value.
func answered(t *testing.T, what string, q question, want func(a answer) api.Errno) {
	t.Helper()
	for _, a := range answers(q) {
		if e := want(a); a.e != e {
			t.Errorf("%s: %s has the error %d, want %d", what, a.name, a.e, e)
		}
		for _, x := range a.values {
			if v := reflect.ValueOf(x); a.e != api.OK && !v.IsZero() && (v.Kind() != reflect.Slice || v.Len() > 0) {
				t.Errorf("%s: %s has the result %v beside an error", what, a.name, x)
			}
		}
	}
}

// flaw spoils an argument of a question that is right.
type flaw struct {
	of    string
	name  string
	spoil func(q *question)
	want  api.Errno
}

// decides reports whether an answer has the error of a flaw, if there is no other one.
func (f flaw) decides(a answer) bool {
	return slices.Contains(strings.Fields(a.uses), f.of)
}

// inOrder checks that each flaw has its error in all functions with this argument, and that of two flaws the one that is named first decides.
func inOrder(t *testing.T, flaws ...flaw) {
	t.Helper()
	expect := func(what string, q question, spoiled ...flaw) {
		t.Helper()
		answered(t, what, q, func(a answer) api.Errno {
			for _, f := range spoiled {
				if f.decides(a) {
					return f.want
				}
			}
			return api.OK
		})
	}
	for i, f := range flaws {
		q := fresh()
		f.spoil(&q)
		expect(f.name, q, f)
		for _, later := range flaws[i+1:] {
			q := fresh()
			later.spoil(&q)
			f.spoil(&q)
			expect(f.name+" and "+later.name, q, f, later)
		}
	}
}

func randomHoles(random *rand.Rand, n int) []api.Hole {
	var h []api.Hole
	for _, i := range random.Perm(n) {
		h = append(h, api.Hole{Par: 3 + random.Intn(4), Index: i + 1})
	}
	return h
}

// randomEntries returns entries of which one in so many is not counted.
func randomEntries(random *rand.Rand, n, oneIn int) []api.Entry {
	var l []api.Entry
	for range n {
		entry := api.Entry{Strokes: 1 + random.Intn(8)}
		switch {
		case random.Intn(oneIn) == 0:
			entry = api.Entry{Mark: []string{"x", "x", "-"}[random.Intn(3)]}
		case random.Intn(4) == 0:
			entry.Mark = "c"
		case random.Intn(20) == 0:
			entry.Strokes = 1 + random.Intn(99)
		}
		l = append(l, entry)
	}
	return l
}

func randomHandicap(random *rand.Rand) int {
	if random.Intn(3) == 0 {
		return random.Intn(199) - 99
	}
	return random.Intn(9) - 4
}

// randomPlayers returns players with different names.
func randomPlayers(random *rand.Rand, holes, n, oneIn int) []format.Player {
	var l []format.Player
	for i := range n {
		name := string(rune('A'+i%26)) + strings.Repeat("z", i/26)
		l = append(l, format.Player{Card: api.Card{Player: name, Entries: randomEntries(random, holes, oneIn)}, Handicap: randomHandicap(random)})
	}
	return l
}

// randomNets returns net strokes of which one in so many is a mark.
func randomNets(random *rand.Rand, n, oneIn int) []format.Net {
	var l []format.Net
	for range n {
		net := format.Net{Strokes: random.Intn(4) - 1}
		if random.Intn(oneIn) == 0 {
			net = format.Net{Mark: []string{"x", "x", "x", "-"}[random.Intn(4)]}
		}
		l = append(l, net)
	}
	return l
}

// randomLists returns lists of one length that are often tied in part.
func randomLists(random *rand.Rand, lists, numbers int) [][]int {
	var l [][]int
	for range lists {
		x := make([]int, numbers)
		for i := range x {
			x[i] = 4
		}
		// What one hole has more, another one has less.
		for range random.Intn(3) {
			x[random.Intn(numbers)]++
			x[random.Intn(numbers)]--
		}
		if random.Intn(4) == 0 {
			x[random.Intn(numbers)] += random.Intn(3) - 1
		}
		l = append(l, x)
	}
	return l
}
