package event_test

import (
	"fmt"
	"math/rand"
	"reflect"
	"slices"
	"strconv"
	"strings"
	"testing"

	"niblick/api"
	"niblick/event"
)

// same compares values; nil and empty lists are equal.
func same(a, b reflect.Value) bool {
	switch a.Kind() {
	case reflect.Slice:
		if a.Len() != b.Len() {
			return false
		}
		for i := range a.Len() {
			if !same(a.Index(i), b.Index(i)) {
				return false
			}
		}
		return true
	case reflect.Struct:
		for i := range a.NumField() {
			if !same(a.Field(i), b.Field(i)) {
				return false
			}
		}
		return true
	case reflect.Interface:
		return same(a.Elem(), b.Elem())
	}
	return a.Equal(b)
}

// alike reports whether two values of one type are equal.
func alike[T any](a, b T) bool {
	return same(reflect.ValueOf(&a).Elem(), reflect.ValueOf(&b).Elem())
}

// is compares a result with what the document requires.
func is[T any](t *testing.T, what string, got, want T) {
	t.Helper()
	if !alike(got, want) {
		t.Errorf("%s: got %v, want %v", what, got, want)
	}
}

// gives checks a result without an error.
func gives[T any](t *testing.T, what string, got T, e api.Errno, want T) {
	t.Helper()
	if e != api.OK || !alike(got, want) {
		t.Errorf("%s: got %v and the error %d, want %v", what, got, e, want)
	}
}

// fails checks an error, and that the result beside it is the zero value.
func fails[T any](t *testing.T, what string, got T, e, want api.Errno) {
	t.Helper()
	if e != want || !alike(got, *new(T)) {
		t.Errorf("%s: got %v and the error %d, want the error %d alone", what, got, e, want)
	}
}

// ok returns a result that has no error.
func ok[T any](t *testing.T, got T, e api.Errno) T {
	t.Helper()
	if e != api.OK {
		t.Fatalf("the error %d", e)
	}
	return got
}

// two is a result of two lists.
type two struct{ first, second []int }

// qualified is the result of Qualify.
type qualified struct {
	in, tied []int
	left     int
}

// remaining is the result of Cut.
type remaining struct {
	in   []int
	line int
}

// replayed is the result of Replay.
type replayed struct {
	standing event.Standing
	at       int
}

func accept(l []event.Entry, places int, rule string, key int) (two, api.Errno) {
	in, reserves, e := event.Accept(l, places, rule, key)
	return two{in, reserves}, e
}

func substitute(in, reserves, gone []int) (two, api.Errno) {
	play, wait, e := event.Substitute(in, reserves, gone)
	return two{play, wait}, e
}

func qualify(totals []int, places int) (qualified, api.Errno) {
	in, tied, left, e := event.Qualify(totals, places)
	return qualified{in, tied, left}, e
}

func cut(l []event.Line, r event.Rule) (remaining, api.Errno) {
	in, line, e := event.Cut(l, r)
	return remaining{in, line}, e
}

func replay(l []event.Act) (replayed, api.Errno) {
	s, at, e := event.Replay(l)
	return replayed{s, at}, e
}

// most is the greatest integer that is a number.
var most = api.Rat(strings.Repeat("9", 600))

// sample returns the entries of the chapter's examples.
func sample() []event.Entry {
	return []event.Entry{{Player: "A", Index: "5"}, {Player: "B", Index: "20", Exempt: true}, {Player: "C", Index: "3"}, {Player: "D", Index: "5"}}
}

// sampleField returns the field of the chapter's examples.
func sampleField() []event.Line {
	return field("ann 70 71", "bob 72 69", "cat 75 74", "dan* 70 70")
}

// field returns lines in words: a player, with a * if an amateur, the scores, and the state.
func field(lines ...string) []event.Line {
	var l []event.Line
	for _, words := range lines {
		all := strings.Fields(words)
		player, amateur := strings.CutSuffix(all[0], "*")
		line := event.Line{Player: player, Amateur: amateur}
		for _, word := range all[1:] {
			if score, err := strconv.Atoi(word); err == nil {
				line.Scores = append(line.Scores, score)
			} else {
				line.State = word
			}
		}
		l = append(l, line)
	}
	return l
}

// acts returns acts in words, with semicolons between them: a kind, a player if it has one, a round if it has one, and the value if it has one.
func acts(text string) []event.Act {
	var l []event.Act
	for words := range strings.SplitSeq(text, ";") {
		var a event.Act
		var numbers []int
		for i, word := range strings.Fields(words) {
			n, err := strconv.Atoi(word)
			switch {
			case i == 0:
				a.Kind = word
			case err != nil:
				a.Player = word
			default:
				numbers = append(numbers, n)
			}
		}
		switch {
		case len(numbers) == 2:
			a.Round, a.Value = numbers[0], numbers[1]
		case len(numbers) == 1 && a.Kind == "void":
			a.Round = numbers[0]
		case len(numbers) == 1:
			a.Value = numbers[0]
		}
		if a.Kind != "" {
			l = append(l, a)
		}
	}
	return l
}

// sampleActs returns the first acts of the chapter's examples.
func sampleActs() []event.Act {
	return acts("enter ann; enter bob; score ann 1 70; score bob 1 74; cut 1 1; score bob 2 68")
}

// question is what the functions are asked.
type question struct {
	entries            []event.Entry
	n, key             int
	places             int
	rule               string
	in, reserves, gone []int
	totals             []int
	seeds, a, b        int
	players            []string
	slots, losers      []string
	lists              [][]string
	field              []event.Line
	cut                event.Rule
	total              int
	weights            []int
	purse              []int
	act                event.Act
	acts, others       []event.Act
}

// answer is what a function returned; uses are the words of the arguments, and of what else can be wrong with them.
type answer struct {
	name, uses string
	value      any
	e          api.Errno
}

// answered makes an answer of what a function returned.
func answered[T any](name, uses string) func(x T, e api.Errno) answer {
	return func(x T, e api.Errno) answer { return answer{name, uses, x, e} }
}

// answers asks all functions.
func answers(q question) []answer {
	standing, _, e := event.Replay(q.acts)
	return []answer{
		{"CheckEntries", "entries", 0, event.CheckEntries(q.entries)},
		answered[[]int]("Ballot", "n key")(event.Ballot(q.n, q.key)),
		answered[two]("Accept", "entries places rule key")(accept(q.entries, q.places, q.rule, q.key)),
		answered[two]("Substitute", "in reserves gone")(substitute(q.in, q.reserves, q.gone)),
		answered[qualified]("Qualify", "totals places")(qualify(q.totals, q.places)),
		answered[[]int]("Strength", "entries")(event.Strength(q.entries)),
		answered[[]int]("Bracket", "seeds")(event.Bracket(q.seeds)),
		answered[int]("Meet", "seeds met")(event.Meet(q.seeds, q.a, q.b)),
		answered[[]string]("Draw", "players")(event.Draw(q.players)),
		answered[[]string]("Advance", "slots losers")(event.Advance(q.slots, q.losers)),
		answered[[][]string]("Run", "players lists")(event.Run(q.players, q.lists)),
		{"CheckField", "field", 0, event.CheckField(q.field)},
		answered[[]event.Place]("Leaderboard", "field")(event.Leaderboard(q.field)),
		answered[remaining]("Cut", "field cut candidates")(cut(q.field, q.cut)),
		answered[[]event.Line]("Miss", "field cut candidates")(event.Miss(q.field, q.cut)),
		answered[[]int]("Purse", "total weights")(event.Purse(q.total, q.weights)),
		answered[[]int]("Prizes", "field purse")(event.Prizes(q.field, q.purse)),
		{"CheckAct", "act", 0, event.CheckAct(q.act)},
		{"Replay", "acts", standing, e},
		answered[[]string]("Changed", "acts others purse")(event.Changed(q.acts, q.others, q.purse)),
	}
}

// fresh returns a question that all functions answer without an error, many of them at a limit.
func fresh() question {
	return question{
		entries: []event.Entry{{Player: "A", Index: "54"}, {Player: "B", Index: "-10", Exempt: true}, {Player: "C", Index: "3"}},
		n:       200, key: 2147483646, places: 2, rule: "index",
		in: []int{0, 999999999999, 5}, reserves: []int{1, 2}, gone: []int{2, 5},
		totals: []int{999999999, -999999999, 0},
		seeds:  200, a: 1, b: 200,
		players: []string{"ann", "bob", "cat"},
		slots:   []string{"ann", "", "bob", "cat"}, losers: []string{"cat"},
		lists: [][]string{{"cat"}, {"ann"}},
		field: field("ann 1 9999", "bob 72 69", "cat 75 74 cut", "dan* 70 70"), cut: event.Rule{After: 2, Places: 200, Within: 999},
		total: 999999999, weights: []int{3, 3, 1},
		purse: []int{600000000, 399999999, 0},
		act:   acts("score ann 8 9999")[0],
		acts:  sampleActs(), others: acts("enter bob 1; score bob 1 1; cut 8 200; void 8"),
	}
}

// isEmpty reports whether a value is the zero value, or has empty lists.
func isEmpty(x any) bool {
	v := reflect.ValueOf(x)
	return same(v, reflect.Zero(v.Type()))
}

// expect checks the errors of all answers, and that each result beside one is the zero value.
func expect(t *testing.T, what string, q question, want func(a answer) api.Errno) {
	t.Helper()
	for _, a := range answers(q) {
		if e := want(a); a.e != e {
			t.Errorf("%s: %s has the error %d, want %d", what, a.name, a.e, e)
		}
		if a.e != api.OK && !isEmpty(a.value) {
			t.Errorf("%s: %s has the result %v beside an error", what, a.name, a.value)
		}
	}
}

// flaw spoils an argument of a question that is right.
type flaw struct {
	of    string
	name  string
	spoil func(q *question)
	want  api.Errno
}

// inOrder checks that each flaw has its error in all functions with this argument, and that of two flaws the one that is named first decides.
func inOrder(t *testing.T, flaws ...flaw) {
	t.Helper()
	try := func(what string, q question, spoiled ...flaw) {
		t.Helper()
		expect(t, what, q, func(a answer) api.Errno {
			for _, f := range spoiled {
				if slices.Contains(strings.Fields(a.uses), f.of) {
					return f.want
				}
			}
			return api.OK
		})
	}
	for i, f := range flaws {
		q := fresh()
		f.spoil(&q)
		try(f.name, q, f)
		for _, later := range flaws[i+1:] {
			q := fresh()
			later.spoil(&q)
			f.spoil(&q)
			try(f.name+" and "+later.name, q, f, later)
		}
	}
}

// names returns different names.
func names(n int) []string {
	var l []string
	for i := range n {
		l = append(l, fmt.Sprint("p", i))
	}
	return l
}

// upTo returns the numbers from 0 to n - 1.
func upTo(n int) []int {
	l := make([]int, n)
	for i := range l {
		l[i] = i
	}
	return l
}

func sum(l []int) int {
	sum := 0
	for _, n := range l {
		sum += n
	}
	return sum
}

// pick returns an element at random.
func pick[T any](random *rand.Rand, l ...T) T {
	return l[random.Intn(len(l))]
}

// randomEntries returns entries, many of which have the same index.
func randomEntries(random *rand.Rand, n int) []event.Entry {
	var l []event.Entry
	oneIn := 1 + random.Intn(6)
	for _, name := range names(n) {
		index := pick[api.Rat](random, "-10", "-1/3", "0", "1/3", "3/10", "5", "21/2", "54", "9"+most[:500]+"/1"+api.Rat(strings.Repeat("0", 500)))
		if random.Intn(3) == 0 {
			index = api.Rat(fmt.Sprint(random.Intn(65) - 10))
		}
		l = append(l, event.Entry{Player: name, Index: index, Exempt: random.Intn(oneIn+1) == 0})
	}
	return l
}

// randomField returns lines with at most so many rounds, many of which have the same total.
func randomField(random *rand.Rand, n, rounds int) []event.Line {
	var l []event.Line
	spread := pick(random, 1, 3, 10, 100)
	complete, states := random.Intn(3) > 0, random.Intn(3)
	for _, name := range names(n) {
		line := event.Line{Player: name, Amateur: random.Intn(4) == 0}
		own := rounds
		if !complete && random.Intn(3) == 0 {
			own = random.Intn(rounds + 1)
		}
		for range own {
			line.Scores = append(line.Scores, 70+random.Intn(spread))
		}
		if random.Intn(4) < states {
			line.State = pick(random, "cut", "out", "dis")
		}
		l = append(l, line)
	}
	return l
}

// randomPurse returns amounts in descending order.
func randomPurse(random *rand.Rand, n int) []int {
	var l []int
	amount := pick(random, 3, 20, 10000, 999999999/max(1, n))
	for range n {
		l = append(l, amount)
		amount -= random.Intn(amount/2 + 1)
		if random.Intn(3) == 0 {
			amount = random.Intn(amount + 1)
		}
	}
	return l
}

// randomActs returns acts of a few players over a few rounds, mostly in a likely order.
func randomActs(random *rand.Rand) []event.Act {
	var l []event.Act
	players, rounds := names(1+random.Intn(6)), 1+random.Intn(4)
	for _, player := range players {
		if random.Intn(12) > 0 {
			l = append(l, event.Act{Kind: "enter", Player: player, Value: random.Intn(2)})
		}
	}
	for round := 1; round <= rounds; round++ {
		for range len(players) + random.Intn(2*len(players)) {
			a := event.Act{Kind: "score", Player: pick(random, players...), Round: round, Value: 70 + random.Intn(5)}
			if random.Intn(6) == 0 {
				a.Round = 1 + random.Intn(rounds)
			}
			l = append(l, a)
			if random.Intn(15) == 0 {
				l = append(l, randomAct(random, players, rounds))
			}
		}
		if random.Intn(2) == 0 {
			l = append(l, event.Act{Kind: "cut", Round: round, Value: 1 + random.Intn(len(players))})
		}
	}
	if random.Intn(8) == 0 {
		random.Shuffle(len(l), func(i, j int) { l[i], l[j] = l[j], l[i] })
	}
	return l
}

// randomAct returns an act of any kind.
func randomAct(random *rand.Rand, players []string, rounds int) event.Act {
	player, round := pick(random, players...), 1+random.Intn(rounds)
	return pick(random,
		event.Act{Kind: "enter", Player: player, Value: random.Intn(2)},
		event.Act{Kind: "score", Player: player, Round: round, Value: 70 + random.Intn(5)},
		event.Act{Kind: "out", Player: player},
		event.Act{Kind: "dis", Player: player},
		event.Act{Kind: "cut", Round: round, Value: 1 + random.Intn(4)},
		event.Act{Kind: "void", Round: round})
}
