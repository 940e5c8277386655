package event_test

import (
	"fmt"
	"math"
	"slices"
	"strings"
	"testing"

	"niblick/api"
	"niblick/event"
)

// entryErrors are changes of an entry with their errors, in their order.
var entryErrors = []struct {
	name   string
	change func(x *event.Entry)
	want   api.Errno
}{
	{"no name", func(x *event.Entry) { x.Player = "1" }, api.ErrName},
	{"no index", func(x *event.Entry) { x.Index = "1/1" }, api.ErrForm},
	{"a long index", func(x *event.Entry) { x.Index = "1" + most }, api.ErrLarge},
	{"an index that is not in lowest terms", func(x *event.Entry) { x.Index = "2/4" }, api.ErrForm},
	{"an index below -10", func(x *event.Entry) { x.Index = "-101/10" }, api.ErrRange},
	{"an index above 54", func(x *event.Entry) { x.Index = "541/10" }, api.ErrRange},
}

// lineErrors are changes of a line with their errors, in their order.
var lineErrors = []struct {
	name   string
	change func(line *event.Line)
	want   api.Errno
}{
	{"no name", func(line *event.Line) { line.Player = "" }, api.ErrName},
	{"nine scores", func(line *event.Line) { line.Scores = make([]int, 9) }, api.ErrMany},
	{"the score 0", func(line *event.Line) { line.Scores = []int{70, 0} }, api.ErrRange},
	{"the score 10000", func(line *event.Line) { line.Scores = []int{10000, 70} }, api.ErrRange},
	{"a state", func(line *event.Line) { line.State = "Cut" }, api.ErrKind},
}

// actErrors are changes of a score with their errors, in their order.
var actErrors = []struct {
	name   string
	change func(a *event.Act)
	want   api.Errno
}{
	{"no kind", func(a *event.Act) { a.Kind = "" }, api.ErrKind},
	{"another kind", func(a *event.Act) { a.Kind = "scores" }, api.ErrKind},
	{"a score of nobody", func(a *event.Act) { a.Kind, a.Player = "score", "" }, api.ErrName},
	{"a cut of somebody", func(a *event.Act) { a.Kind, a.Player = "cut", "ann" }, api.ErrForm},
	{"a round", func(a *event.Act) { a.Kind, a.Player, a.Round = "score", "ann", 9 }, api.ErrRange},
	{"a value", func(a *event.Act) { a.Kind, a.Player, a.Round, a.Value = "score", "ann", 1, 10000 }, api.ErrRange},
}

// spoiling makes flaws of changes of one element, in their order.
func spoiling[T any](of, what string, element func(q *question) *T, name string, change func(x *T), want api.Errno) flaw {
	return flaw{of, name + " of " + what + " of " + of, func(q *question) { change(element(q)) }, want}
}

func entryFlaws() []flaw {
	l := []flaw{{"entries", "201 entries", func(q *question) { q.entries = make([]event.Entry, 201) }, api.ErrMany}}
	at := func(i int) func(q *question) *event.Entry {
		return func(q *question) *event.Entry { return &q.entries[i] }
	}
	for i := range 3 {
		for j, c := range entryErrors {
			l = append(l, spoiling("entries", fmt.Sprint(i), at(i), c.name, c.change, c.want))
			if i == 1 && j == 0 {
				l = append(l, flaw{"entries", "a player twice", func(q *question) { q.entries[1].Player = q.entries[0].Player }, api.ErrTwice})
			}
		}
	}
	return l
}

func fieldFlaws() []flaw {
	l := []flaw{{"field", "201 lines", func(q *question) { q.field = make([]event.Line, 201) }, api.ErrMany}}
	at := func(i int) func(q *question) *event.Line {
		return func(q *question) *event.Line { return &q.field[i] }
	}
	for i := range 3 {
		for j, c := range lineErrors {
			l = append(l, spoiling("field", fmt.Sprint(i), at(i), c.name, c.change, c.want))
			if i == 1 && j == 0 {
				l = append(l, flaw{"field", "a line twice", func(q *question) { q.field[1].Player = q.field[0].Player }, api.ErrTwice})
			}
		}
	}
	return l
}

func actFlaws(of string, list func(q *question) *[]event.Act) []flaw {
	l := []flaw{{of, "1001 acts of " + of, func(q *question) { *list(q) = make([]event.Act, 1001) }, api.ErrMany}}
	for i := range 2 {
		for _, c := range actErrors {
			l = append(l, spoiling(of, fmt.Sprint(i), func(q *question) *event.Act { return &(*list(q))[i] }, c.name, c.change, c.want))
		}
	}
	return l
}

// numberFlaws are flaws of numbers of entries, in their order.
func numberFlaws() []flaw {
	var l []flaw
	add := func(of, name string, spoil func(q *question), want api.Errno) {
		l = append(l, flaw{of, name + " " + of, spoil, want})
	}
	add("in", "201 numbers", func(q *question) { q.in = slices.Repeat([]int{-1}, 201) }, api.ErrMany)
	add("in", "a negative number", func(q *question) { q.in = []int{0, -1, 0} }, api.ErrRange)
	add("in", "a number twice", func(q *question) { q.in = []int{0, 5, 0, -1} }, api.ErrTwice)
	add("reserves", "201 numbers", func(q *question) { q.reserves = slices.Repeat([]int{-1}, 201) }, api.ErrMany)
	add("reserves", "a negative number", func(q *question) { q.reserves = []int{1, -1, 1} }, api.ErrRange)
	add("reserves", "a number twice", func(q *question) { q.reserves = []int{1, 2, 1, -1} }, api.ErrTwice)
	add("reserves", "a number of the first list", func(q *question) { q.reserves = []int{1, 2, 5, -1} }, api.ErrTwice)
	add("gone", "201 numbers", func(q *question) { q.gone = slices.Repeat([]int{7}, 201) }, api.ErrMany)
	add("gone", "a number in neither list", func(q *question) { q.gone = []int{7, 5, 5} }, api.ErrUnknown)
	add("gone", "a number twice", func(q *question) { q.gone = []int{5, 5, 7} }, api.ErrTwice)
	add("totals", "201 totals", func(q *question) { q.totals = slices.Repeat([]int{1 << 40}, 201) }, api.ErrMany)
	add("totals", "a total", func(q *question) { q.totals[1] = -1000000000 }, api.ErrRange)
	add("n", "a number", func(q *question) { q.n = 201 }, api.ErrRange)
	add("places", "a number", func(q *question) { q.places = -1 }, api.ErrRange)
	add("rule", "another", func(q *question) { q.rule = "Index" }, api.ErrKind)
	add("key", "a number", func(q *question) { q.key = 0 }, api.ErrRange)
	return l
}

// bracketFlaws are flaws of seeds, players, slots and losers, in their order.
func bracketFlaws() []flaw {
	var l []flaw
	add := func(of, name string, spoil func(q *question), want api.Errno) {
		l = append(l, flaw{of, name + " of " + of, spoil, want})
	}
	add("seeds", "no seeds", func(q *question) { q.seeds = 0 }, api.ErrRange)
	add("met", "a seed that is not there", func(q *question) { q.a = 0 }, api.ErrUnknown)
	add("met", "another seed that is not there", func(q *question) { q.b = 201 }, api.ErrUnknown)
	add("met", "a seed twice", func(q *question) { q.a, q.b = 7, 7 }, api.ErrTwice)
	add("players", "nobody", func(q *question) { q.players = nil }, api.ErrEmpty)
	add("players", "201 players", func(q *question) { q.players = make([]string, 201) }, api.ErrMany)
	add("players", "no name", func(q *question) { q.players = []string{"ann", "", "ann"} }, api.ErrName)
	add("players", "a name twice", func(q *question) { q.players = []string{"ann", "ann", ""} }, api.ErrTwice)
	add("lists", "too many lists", func(q *question) { q.lists = [][]string{{"nobody"}, nil, nil} }, api.ErrOver)
	add("lists", "an unknown loser", func(q *question) { q.lists[0] = []string{"nobody", "cat", "cat"} }, api.ErrUnknown)
	add("lists", "a loser twice", func(q *question) { q.lists[0] = []string{"cat", "cat", "nobody"} }, api.ErrTwice)
	add("lists", "nobody who loses", func(q *question) { q.lists[0] = nil }, api.ErrState)
	add("lists", "a loser of the round before", func(q *question) { q.lists[1] = []string{"cat"} }, api.ErrUnknown)
	add("slots", "three slots", func(q *question) { q.slots = q.slots[:3] }, api.ErrShape)
	add("slots", "no name", func(q *question) { q.slots[0] = "no name" }, api.ErrName)
	add("slots", "a name twice", func(q *question) { q.slots[2] = q.slots[0] }, api.ErrTwice)
	add("slots", "a later one without a name", func(q *question) { q.slots[3] = "_" }, api.ErrName)
	add("losers", "an unknown loser", func(q *question) { q.losers = slices.Insert(q.losers, 0, "nobody") }, api.ErrUnknown)
	add("losers", "a loser twice", func(q *question) { q.losers = append([]string{"cat", "cat"}, q.losers...) }, api.ErrTwice)
	add("losers", "a bye that loses", func(q *question) { q.losers = append(q.losers, "") }, api.ErrUnknown)
	add("losers", "nobody who loses", func(q *question) { q.losers = nil }, api.ErrState)
	return l
}

// moneyFlaws are flaws of cuts, weights and purses, in their order.
func moneyFlaws() []flaw {
	var l []flaw
	add := func(of, name string, spoil func(q *question), want api.Errno) {
		l = append(l, flaw{of, name + " of " + of, spoil, want})
	}
	add("cut", "rounds", func(q *question) { q.cut.After = 9 }, api.ErrRange)
	add("cut", "places", func(q *question) { q.cut.Places = 0 }, api.ErrRange)
	add("cut", "strokes", func(q *question) { q.cut.Within = -2 }, api.ErrRange)
	add("candidates", "nobody", func(q *question) {
		for i := range q.field {
			q.field[i].State = "out"
		}
	}, api.ErrEmpty)
	add("candidates", "a score too few", func(q *question) { q.cut.After = 3 }, api.ErrState)
	add("total", "a negative number", func(q *question) { q.total = -1 }, api.ErrRange)
	add("weights", "none", func(q *question) { q.weights = nil }, api.ErrEmpty)
	add("weights", "257", func(q *question) { q.weights = slices.Repeat([]int{-1}, 257) }, api.ErrMany)
	add("weights", "a negative one after a greater one", func(q *question) { q.weights = []int{1, 2, -1} }, api.ErrRange)
	add("weights", "only 0", func(q *question) { q.weights = []int{0, 0} }, api.ErrZero)
	add("weights", "a greater one", func(q *question) { q.weights = []int{2, 1, 2} }, api.ErrOrder)
	add("purse", "201 amounts", func(q *question) { q.purse = slices.Repeat([]int{-1}, 201) }, api.ErrMany)
	add("purse", "a negative amount", func(q *question) { q.purse = []int{1, -1, 5} }, api.ErrRange)
	add("purse", "a great amount", func(q *question) { q.purse = []int{1000000000, 1000000001} }, api.ErrRange)
	add("purse", "a greater amount before a negative one", func(q *question) { q.purse = []int{1, 2, -1} }, api.ErrOrder)
	add("purse", "a greater amount of a great sum", func(q *question) { q.purse = []int{999999998, 999999999} }, api.ErrOrder)
	add("purse", "the sum", func(q *question) { q.purse = []int{600000000, 400000000} }, api.ErrLarge)
	return l
}

func TestP7ErrorsInOrder(t *testing.T) {
	expect(t, "a fresh question", fresh(), func(answer) api.Errno { return api.OK })
	// Flaws are only tried in pairs with others that some function has as well.
	inOrder(t, append(entryFlaws(), numberFlaws()...)...)
	inOrder(t, bracketFlaws()...)
	inOrder(t, append(fieldFlaws(), moneyFlaws()...)...)
	one := []flaw{}
	for _, c := range actErrors {
		one = append(one, spoiling("act", "one", func(q *question) *event.Act { return &q.act }, c.name, c.change, c.want))
	}
	inOrder(t, one...)
	l := append(actFlaws("acts", func(q *question) *[]event.Act { return &q.acts }), actFlaws("others", func(q *question) *[]event.Act { return &q.others })...)
	inOrder(t, append(l, moneyFlaws()...)...)
}

func TestP7_1CheckEntries(t *testing.T) {
	zeros := api.Rat(strings.Repeat("0", 598))
	for _, c := range []struct {
		name   string
		change func(x *event.Entry)
		want   api.Errno
	}{
		{"nothing", func(x *event.Entry) {}, api.OK},
		{"a long name", func(x *event.Entry) { x.Player = strings.Repeat("a", 24) }, api.OK},
		{"a longer one", func(x *event.Entry) { x.Player = strings.Repeat("a", 25) }, api.ErrName},
		{"no player", func(x *event.Entry) { x.Player = "" }, api.ErrName},
		{"no text", func(x *event.Entry) { x.Index = "" }, api.ErrForm},
		{"the least index", func(x *event.Entry) { x.Index = "-10" }, api.OK},
		{"one just above it", func(x *event.Entry) { x.Index = "-9" + most[:598] + "/1" + zeros }, api.OK},
		{"one just below it", func(x *event.Entry) { x.Index = "-10" + zeros[1:] + "1/1" + zeros }, api.ErrRange},
		{"-11", func(x *event.Entry) { x.Index = "-11" }, api.ErrRange},
		{"the greatest index", func(x *event.Entry) { x.Index = "54" }, api.OK},
		{"one just below the greatest", func(x *event.Entry) { x.Index = "53" + most[:598] + "/1" + zeros }, api.OK},
		{"one just above it", func(x *event.Entry) { x.Index = "54" + zeros[1:] + "1/1" + zeros }, api.ErrRange},
		{"55", func(x *event.Entry) { x.Index = "55" }, api.ErrRange},
		{"a very great one", func(x *event.Entry) { x.Index = most }, api.ErrRange},
		{"a very small one", func(x *event.Entry) { x.Index = "-" + most }, api.ErrRange},
	} {
		for i := range 4 {
			l := sample()
			c.change(&l[i])
			is(t, c.name, event.CheckEntries(l), c.want)
			_, e := event.Strength(l)
			is(t, "the strength with "+c.name, e, c.want)
		}
	}
	many := func(n int) []event.Entry {
		var l []event.Entry
		for _, name := range names(n) {
			l = append(l, event.Entry{Player: name, Index: "0"})
		}
		return l
	}
	is(t, "no entries", event.CheckEntries(nil), api.OK)
	is(t, "200 entries", event.CheckEntries(many(200)), api.OK)
	is(t, "201 entries", event.CheckEntries(many(201)), api.ErrMany)
	l := many(200)
	l[199].Player = "p0"
	is(t, "the first and the last one are the same", event.CheckEntries(l), api.ErrTwice)
	l[199].Index = "x"
	is(t, "twice before the index", event.CheckEntries(l), api.ErrTwice)
	l[199].Player = "P0"
	is(t, "a capital letter is another one", event.CheckEntries(l), api.ErrForm)
}

func TestP7_4CheckField(t *testing.T) {
	for _, c := range []struct {
		name   string
		change func(line *event.Line)
		want   api.Errno
	}{
		{"nothing", func(line *event.Line) {}, api.OK},
		{"a blank", func(line *event.Line) { line.Player = "an n" }, api.ErrName},
		{"no scores", func(line *event.Line) { line.Scores = nil }, api.OK},
		{"eight scores", func(line *event.Line) { line.Scores = []int{1, 9999, 1, 9999, 1, 9999, 1, 9999} }, api.OK},
		{"nine scores", func(line *event.Line) { line.Scores = slices.Repeat([]int{70}, 9) }, api.ErrMany},
		{"the score 0", func(line *event.Line) { line.Scores = []int{0} }, api.ErrRange},
		{"the least score", func(line *event.Line) { line.Scores = []int{70, math.MinInt} }, api.ErrRange},
		{"the score 10000", func(line *event.Line) { line.Scores = []int{70, 70, 10000} }, api.ErrRange},
		{"cut", func(line *event.Line) { line.State = "cut" }, api.OK},
		{"out", func(line *event.Line) { line.State = "out" }, api.OK},
		{"dis", func(line *event.Line) { line.State = "dis" }, api.OK},
		{"void", func(line *event.Line) { line.State = "void" }, api.ErrKind},
		{"a blank state", func(line *event.Line) { line.State = " " }, api.ErrKind},
		{"a score before a state", func(line *event.Line) { line.Scores, line.State = []int{0}, "x" }, api.ErrRange},
		{"too many scores before one of them", func(line *event.Line) { line.Scores = make([]int, 9) }, api.ErrMany},
		{"a name twice", func(line *event.Line) { line.Player = "cat" }, api.ErrTwice},
	} {
		for _, i := range []int{0, 1, 3} {
			l := sampleField()
			c.change(&l[i])
			is(t, c.name, event.CheckField(l), c.want)
			_, e := event.Leaderboard(l)
			is(t, "the places with "+c.name, e, c.want)
		}
	}
	many := func(n int) []event.Line { return field(names(n)...) }
	is(t, "no lines", event.CheckField(nil), api.OK)
	is(t, "200 lines", event.CheckField(many(200)), api.OK)
	is(t, "201 lines", event.CheckField(many(201)), api.ErrMany)
	l := many(200)
	l[199].Player = l[100].Player
	is(t, "a player twice", event.CheckField(l), api.ErrTwice)
}

func TestP7_6CheckAct(t *testing.T) {
	type limits struct{ least, most int }
	for _, c := range []struct {
		kind      string
		hasPlayer bool
		round     limits
		value     limits
	}{
		{"enter", true, limits{0, 0}, limits{0, 1}},
		{"score", true, limits{1, 8}, limits{1, 9999}},
		{"out", true, limits{0, 0}, limits{0, 0}},
		{"dis", true, limits{0, 0}, limits{0, 0}},
		{"cut", false, limits{1, 8}, limits{1, 200}},
		{"void", false, limits{1, 8}, limits{0, 0}},
	} {
		for _, player := range []string{"", "ann", "1", "ann ", strings.Repeat("a", 24), strings.Repeat("a", 25)} {
			for _, round := range []int{math.MinInt, -1, 0, 1, 2, 8, 9, math.MaxInt} {
				for _, value := range []int{math.MinInt, -1, 0, 1, 2, 200, 201, 9999, 10000, math.MaxInt} {
					a := event.Act{Kind: c.kind, Player: player, Round: round, Value: value}
					want := api.OK
					switch isName := player == "ann" || len(player) == 24; {
					case c.hasPlayer && !isName:
						want = api.ErrName
					case !c.hasPlayer && player != "":
						want = api.ErrForm
					case round < c.round.least, round > c.round.most, value < c.value.least, value > c.value.most:
						want = api.ErrRange
					}
					is(t, fmt.Sprint(a), event.CheckAct(a), want)
					got, e := replay([]event.Act{a})
					is(t, fmt.Sprint("the place of ", a), e != want || (got.at == 1) != (want != api.OK), false)
					for _, kind := range []string{"", c.kind + " ", strings.ToUpper(c.kind), "withdraw", "playing"} {
						a.Kind = kind
						is(t, fmt.Sprint(a), event.CheckAct(a), api.ErrKind)
					}
				}
			}
		}
	}
	is(t, "no act", event.CheckAct(event.Act{}), api.ErrKind)
}
