package union_test

import (
	"math/rand"
	"reflect"
	"slices"
	"strconv"
	"strings"
	"testing"

	"niblick/api"
	"niblick/union"
)

// same compares values; nil and empty lists are equal.
func same(a, b reflect.Value) bool {
	switch a.Kind() {
	case reflect.Slice:
		if a.Len() != b.Len() {
			return false
		}
		for i := range a.Len() {
			if !same(a.Index(i), b.Index(i)) {
				return false
			}
		}
		return true
	case reflect.Struct:
		for i := range a.NumField() {
			if !same(a.Field(i), b.Field(i)) {
				return false
			}
		}
		return true
	case reflect.Interface:
		return same(a.Elem(), b.Elem())
	}
	return a.Equal(b)
}

// alike reports whether two values of one type are equal.
func alike[T any](a, b T) bool {
	return same(reflect.ValueOf(&a).Elem(), reflect.ValueOf(&b).Elem())
}

// is compares a result with what the document requires.
func is[T any](t *testing.T, what string, got, want T) {
	t.Helper()
	if !alike(got, want) {
		t.Errorf("%s: got %v, want %v", what, got, want)
	}
}

// gives checks a result without an error.
func gives[T any](t *testing.T, what string, got T, e api.Errno, want T) {
	t.Helper()
	if e != api.OK || !alike(got, want) {
		t.Errorf("%s: got %v and the error %d, want %v", what, got, e, want)
	}
}

// fails checks an error, and that the result beside it is the zero value.
func fails[T any](t *testing.T, what string, got T, e, want api.Errno) {
	t.Helper()
	if e != want || !alike(got, *new(T)) {
		t.Errorf("%s: got %v and the error %d, want the error %d alone", what, got, e, want)
	}
}

// ok returns a result that has no error.
func ok[T any](t *testing.T, got T, e api.Errno) T {
	t.Helper()
	if e != api.OK {
		t.Fatalf("the error %d", e)
	}
	return got
}

// recovered is the result of Recover.
type recovered struct {
	events []api.Event
	length int
}

// replayed is the result of Replay.
type replayed struct {
	union union.Union
	place int
}

// loaded is what a session has that was loaded.
type loaded struct {
	events []api.Event
	log    string
}

func recoverLog(log string) (recovered, api.Errno) {
	l, length, e := union.Recover(log)
	return recovered{l, length}, e
}

func replay(l []api.Event) (replayed, api.Errno) {
	u, place, e := union.Replay(l)
	return replayed{u, place}, e
}

func load(log string) (loaded, api.Errno) {
	s, e := union.Load(log)
	return loaded{s.Events(), s.Log()}, e
}

// told is the answer to a line, and what the session has after it.
type told struct {
	answer string
	loaded
}

// tell returns the answer to a line after others. Beside an error nothing may have changed.
func tell(lines []string, line string) (told, api.Errno) {
	s := union.New()
	for _, line := range lines {
		s.Do(line)
	}
	before := loaded{s.Events(), s.Log()}
	answer, e := s.Do(line)
	after := loaded{s.Events(), s.Log()}
	if e != api.OK && alike(before, after) {
		after = loaded{}
	}
	return told{answer, after}, e
}

// number reads an integer.
func number(word string) int {
	n, err := strconv.Atoi(word)
	if err != nil {
		panic(err)
	}
	return n
}

// entry returns an entry in a word, such as 5, 6c, x or -.
func entry(word string) api.Entry {
	if word == "x" || word == "-" {
		return api.Entry{Mark: word}
	}
	if digits, conceded := strings.CutSuffix(word, "c"); conceded {
		return api.Entry{Strokes: number(digits), Mark: "c"}
	}
	return api.Entry{Strokes: number(word)}
}

func entries(words string) []api.Entry {
	var l []api.Entry
	for _, word := range strings.Fields(words) {
		l = append(l, entry(word))
	}
	return l
}

// holes returns holes in words, such as 4:2 3:1.
func holes(words string) []api.Hole {
	var l []api.Hole
	for _, word := range strings.Fields(words) {
		par, index, _ := strings.Cut(word, ":")
		l = append(l, api.Hole{Par: number(par), Index: number(index)})
	}
	return l
}

// marks returns marks in words: the player, by whom, the hole, and the entry.
func marks(lines ...string) []union.Mark {
	var l []union.Mark
	for _, line := range lines {
		words := strings.Fields(line)
		l = append(l, union.Mark{Player: words[0], By: words[1], Hole: number(words[2]), Entry: entry(words[3])})
	}
	return l
}

// message returns a message in words: the device, the number, the player, the hole, and the entry.
func message(line string) union.Message {
	words := strings.Fields(line)
	return union.Message{Device: words[0], Number: number(words[1]), Player: words[2], Hole: number(words[3]), Entry: entry(words[4])}
}

func messages(lines ...string) []union.Message {
	var l []union.Message
	for _, line := range lines {
		l = append(l, message(line))
	}
	return l
}

func follower(lines ...string) union.Follower {
	return union.Follower{Messages: messages(lines...)}
}

// standings returns a board in words, such as ben:-1:1: the player, Par and Through.
func standings(words string) []union.Standing {
	var l []union.Standing
	for _, word := range strings.Fields(words) {
		parts := strings.Split(word, ":")
		l = append(l, union.Standing{Player: parts[0], Par: number(parts[1]), Through: number(parts[2])})
	}
	return l
}

// form says how many names and values an event of a kind has, and whether it has a text.
type form struct {
	names, values int
	hasText       bool
}

// formOf returns the form of the events of a kind.
func formOf(kind string) (form, bool) {
	switch kind {
	case "club", "sign", "round":
		return form{names: 1}, true
	case "member":
		return form{names: 2, hasText: true}, true
	case "holes":
		return form{hasText: true}, true
	case "mark":
		return form{names: 2, values: 1, hasText: true}, true
	case "claim", "ruling":
		return form{names: 1, values: 1, hasText: true}, true
	case "undo":
		return form{}, true
	}
	return form{}, false
}

// occurrence returns an event with a number, from the words of a console.
func occurrence(n int, line string) api.Event {
	words := strings.Split(line, " ")
	f, known := formOf(words[0])
	if !known {
		panic(line)
	}
	e := api.Event{Number: n, Kind: words[0], Names: words[1 : 1+f.names : 1+f.names]}
	for _, word := range words[1+f.names : 1+f.names+f.values] {
		e.Values = append(e.Values, number(word))
	}
	e.Text = strings.Join(words[1+f.names+f.values:], " ")
	return e
}

// events returns events in lines, as they are typed at the console; their numbers are those of the lines.
func events(lines ...string) []api.Event {
	var l []api.Event
	for i, line := range lines {
		l = append(l, occurrence(i+1, line))
	}
	return l
}

// sampleLines returns the events of the chapter's examples.
func sampleLines() []string {
	return []string{
		"club links", "member ann links 0", "member ben links 2", "holes 4:2 3:1",
		"mark ann ben 1 5", "claim ann 1 5", "mark ann ben 2 3", "mark ben ann 1 4",
	}
}

// sample returns the union of the chapter's examples.
func sample() union.Union {
	return union.Union{
		Clubs:   []string{"links"},
		Members: []union.Member{{Name: "ann", Club: "links"}, {Name: "ben", Club: "links", Handicap: 2}},
		Holes:   holes("4:2 3:1"),
		Marks:   marks("ann ben 1 5", "ann ann 1 5", "ann ben 2 3", "ben ann 1 4"),
	}
}

// logOf returns the log of events.
func logOf(t *testing.T, l []api.Event) string {
	t.Helper()
	log := ""
	for _, e := range l {
		next, err := union.Append(log, e)
		log = ok(t, next, err)
	}
	return log
}

// copyOf returns a union that shares no memory with another one.
func copyOf(u union.Union) union.Union {
	u.Clubs, u.Members, u.Holes = slices.Clone(u.Clubs), slices.Clone(u.Members), slices.Clone(u.Holes)
	u.Marks, u.Signed, u.Past = slices.Clone(u.Marks), slices.Clone(u.Signed), slices.Clone(u.Past)
	for i := range u.Past {
		k := &u.Past[i]
		k.Holes, k.Cards = slices.Clone(k.Holes), slices.Clone(k.Cards)
		for j := range k.Cards {
			k.Cards[j].Entries = slices.Clone(k.Cards[j].Entries)
		}
	}
	return u
}

// question is what the functions are asked.
type question struct {
	union    union.Union
	player   string
	signer   string
	message  union.Message
	follower union.Follower
	received union.Message
	other    union.Follower
	event    api.Event
	events   []api.Event
	next     api.Event
	log      string
	appended api.Event
	torn     string
	lines    []string
	line     string
}

// answer is what a function returned; uses are the words of the arguments, and of what else can be wrong with them.
type answer struct {
	name, uses string
	value      any
	e          api.Errno
}

// answered makes an answer of what a function returned.
func answered[T any](name, uses string) func(x T, e api.Errno) answer {
	return func(x T, e api.Errno) answer { return answer{name, uses, x, e} }
}

// answers asks all functions.
func answers(q question) []answer {
	return []answer{
		{"CheckUnion", "union", 0, union.CheckUnion(q.union)},
		answered[api.Card]("Card", "union player")(union.Card(q.union, q.player)),
		answered[[]int]("Open", "union player")(union.Open(q.union, q.player)),
		answered[[]int]("Differs", "union player")(union.Differs(q.union, q.player)),
		{"Signable", "union signer", 0, union.Signable(q.union, q.signer)},
		answered[[]union.Standing]("Board", "union")(union.Board(q.union)),
		{"CheckMessage", "message", 0, union.CheckMessage(q.message)},
		{"CheckFollower", "follower", 0, union.CheckFollower(q.follower)},
		answered[union.Follower]("Receive", "follower received")(union.Receive(q.follower, q.received)),
		answered[union.Follower]("Join", "follower other")(union.Join(q.follower, q.other)),
		answered[[]union.Message]("Shown", "follower")(union.Shown(q.follower)),
		answered[[]union.Gap]("Gaps", "follower")(union.Gaps(q.follower)),
		answered[[]union.Standing]("Follow", "union follower")(union.Follow(q.union, q.follower)),
		{"CheckEvent", "event", 0, union.CheckEvent(q.event)},
		answered[replayed]("Replay", "events")(replay(q.events)),
		{"Accepts", "events next", 0, union.Accepts(q.events, q.next)},
		answered[string]("Append", "log appended")(union.Append(q.log, q.appended)),
		answered[recovered]("Recover", "log")(recoverLog(q.log)),
		answered[loaded]("Load", "torn")(load(q.torn)),
		answered[told]("Do", "line")(tell(q.lines, q.line)),
	}
}

// fresh returns a question that all functions answer without an error.
func fresh() question {
	u := union.Union{
		Clubs:   []string{"links", "moor", "sea"},
		Members: []union.Member{{Name: "ann", Club: "links"}, {Name: "ben", Club: "links", Handicap: 2}, {Name: "cem", Club: "moor", Handicap: -99}, {Name: "dan", Club: "moor", Handicap: 99}},
		Holes:   holes("4:2 3:1"),
		Marks: marks(
			"ann ben 1 5", "ann ann 1 5", "ann cem 2 3", "ann ann 2 3",
			"ben ann 1 x", "ben ben 1 x", "ben ann 2 99c", "ben ben 2 99c",
			"dan ann 1 4", "dan dan 2 -"),
		Signed: []string{"ben", "ann"},
		Past: []union.Kept{
			{Name: "one", Holes: holes("6:1"), Cards: []api.Card{{Player: "eva", Entries: entries("x")}}},
			{Name: "two", Holes: holes("3:2 4:1"), Cards: []api.Card{{Player: "ann", Entries: entries("4 -")}, {Player: "ben", Entries: entries("99 1c")}}},
		},
	}
	lines := []string{"club links", "club moor", "member ann links -99", "member ben moor 99", "holes 4:2 3:1", "undo", "holes 3:1", "mark ann ben 1 3"}
	return question{
		union: u, player: "dan", signer: "ann",
		message:  message("d 1000 eva 36 99c"),
		follower: follower("a 2 ann 1 4", "b 1 ann 2 x", "b 1000 eva 36 99", "c 1 ben 1 -"),
		received: message("b 2 ben 2 5"),
		other:    follower("b 1 ann 2 x", "b 2 ben 2 5", "d 7 ann 1 1"),
		event:    occurrence(1000, "mark A_1 "+strings.Repeat("b", 24)+" 999999999 "+strings.Repeat(" ", 4096)),
		events:   events(lines...), next: occurrence(9, "claim ann 1 3"),
		log: "1 club links#2e29c3\n", appended: occurrence(7, "holes "),
		torn: "1 club links#2e29c3\n2 cl", lines: lines, line: "board",
	}
}

// isEmpty reports whether a value is the zero value, or has empty lists.
func isEmpty(x any) bool {
	v := reflect.ValueOf(x)
	return same(v, reflect.Zero(v.Type()))
}

// expect checks the errors of all answers, and that each result beside one is the zero value.
func expect(t *testing.T, what string, q question, want func(a answer) api.Errno) {
	t.Helper()
	for _, a := range answers(q) {
		if e := want(a); a.e != e {
			t.Errorf("%s: %s has the error %d, want %d", what, a.name, a.e, e)
		}
		if a.e != api.OK && !isEmpty(a.value) {
			t.Errorf("%s: %s has the result %v beside an error", what, a.name, a.value)
		}
	}
}

// flaw spoils an argument of a question that is right.
type flaw struct {
	of    string
	name  string
	spoil func(q *question)
	want  api.Errno
}

// flawOf makes flaws of one kind of argument.
func flawOf(of string) func(name string, spoil func(q *question), want api.Errno) flaw {
	return func(name string, spoil func(q *question), want api.Errno) flaw {
		return flaw{of, name + " of " + of, spoil, want}
	}
}

// meet reports whether a function has two kinds of arguments.
func meet(of, other string) bool {
	return slices.ContainsFunc(answers(question{}), func(a answer) bool {
		uses := strings.Fields(a.uses)
		return slices.Contains(uses, of) && slices.Contains(uses, other)
	})
}

// inOrder checks that each flaw has its error in all functions with this argument, and that of two flaws in one function the one that is named first decides.
func inOrder(t *testing.T, flaws ...flaw) {
	t.Helper()
	try := func(what string, q question, spoiled ...flaw) {
		t.Helper()
		expect(t, what, q, func(a answer) api.Errno {
			for _, f := range spoiled {
				if slices.Contains(strings.Fields(a.uses), f.of) {
					return f.want
				}
			}
			return api.OK
		})
	}
	for i, f := range flaws {
		q := fresh()
		f.spoil(&q)
		try(f.name, q, f)
		for _, later := range flaws[i+1:] {
			if !meet(f.of, later.of) {
				continue
			}
			q := fresh()
			later.spoil(&q)
			f.spoil(&q)
			try(f.name+" and "+later.name, q, f, later)
		}
	}
}

// pick returns an element at random.
func pick[T any](random *rand.Rand, l ...T) T {
	return l[random.Intn(len(l))]
}
