package format_test

import (
	"math/rand"
	"strings"
	"testing"

	"niblick/api"
	"niblick/format"
)

// errorsOfPlayer are flaws of a player, in their order.
func errorsOfPlayer(of, who string, player func(q *question) *format.Player) []flaw {
	change := func(change func(p *format.Player)) func(q *question) {
		return func(q *question) {
			p := player(q)
			*p = copiedPlayers(*p)[0]
			change(p)
		}
	}
	entry := func(i int, entry api.Entry) func(q *question) {
		return change(func(p *format.Player) {
			if i < len(p.Card.Entries) {
				p.Card.Entries[i] = entry
			}
		})
	}
	return []flaw{
		{of, "a name of " + who, change(func(p *format.Player) { p.Card.Player = "1" }), api.ErrName},
		{of, "an entry of " + who + " that is missing", change(func(p *format.Player) { p.Card.Entries = p.Card.Entries[:3] }), api.ErrShape},
		{of, "a mark of " + who, entry(0, api.Entry{Strokes: 100, Mark: "X"}), api.ErrKind},
		{of, "too many strokes of " + who, entry(1, api.Entry{Strokes: 100}), api.ErrRange},
		{of, "strokes of " + who + " that are not played", entry(2, api.Entry{Strokes: 1, Mark: "-"}), api.ErrRange},
		{of, "handicap strokes of " + who, change(func(p *format.Player) { p.Handicap = 100 }), api.ErrRange},
	}
}

// errorsOfPlayers are flaws of lists of players, in their order.
func errorsOfPlayers(of string, list func(q *question) *[]format.Player) []flaw {
	one := func(i int) func(q *question) *format.Player {
		return func(q *question) *format.Player {
			l := list(q)
			for len(*l) <= i {
				*l = append(*l, format.Player{})
			}
			return &(*l)[i]
		}
	}
	l := errorsOfPlayer(of, "the first one of the "+of, one(0))
	l = append(l, errorsOfPlayer(of, "the second one of the "+of, one(1))...)
	twice := flaw{of, "the same name twice in the " + of, func(q *question) { one(1)(q).Card.Player = one(0)(q).Card.Player }, api.ErrTwice}
	l = append(l, twice)
	return append(l, errorsOfPlayer(of, "the third one of the "+of, one(2))...)
}

func errorsOfHoles() []flaw {
	hole := func(i int, h api.Hole) func(q *question) {
		return func(q *question) {
			for len(q.h) <= i {
				q.h = append(q.h, api.Hole{})
			}
			q.h[i] = h
		}
	}
	return []flaw{
		{"h", "no holes", func(q *question) { q.h = nil }, api.ErrEmpty},
		{"h", "37 holes", func(q *question) { q.h = inLine(37) }, api.ErrMany},
		{"h", "a par", hole(0, api.Hole{Par: 7, Index: 2}), api.ErrRange},
		{"h", "an index", hole(1, api.Hole{Par: 4, Index: 5}), api.ErrRange},
		{"h", "an index twice", hole(2, api.Hole{Par: 4, Index: 2}), api.ErrTwice},
	}
}

// errorsOfNets are flaws of net strokes, in their order.
func errorsOfNets(of string, list func(q *question) *[]format.Net) []flaw {
	net := func(i int, n format.Net) func(q *question) {
		return func(q *question) {
			l := list(q)
			for len(*l) <= i {
				*l = append(*l, format.Net{})
			}
			(*l)[i] = n
		}
	}
	return []flaw{
		{of, "no net strokes " + of, func(q *question) { *list(q) = nil }, api.ErrEmpty},
		{of, "37 net strokes " + of, func(q *question) { *list(q) = make([]format.Net, 37) }, api.ErrMany},
		{of, "a mark of net strokes " + of, net(0, format.Net{Strokes: 1000, Mark: "c"}), api.ErrKind},
		{of, "too many net strokes " + of, net(1, format.Net{Strokes: 1000}), api.ErrRange},
		{of, "too few net strokes " + of, net(2, format.Net{Strokes: -1000}), api.ErrRange},
		{of, "net strokes picked up " + of, net(3, format.Net{Strokes: 1, Mark: "x"}), api.ErrRange},
	}
}

// errorsOfNumbers are flaws of a list of numbers, in their order.
func errorsOfNumbers(of string, most int, list func(q *question) *[]int) []flaw {
	return []flaw{
		{of, "no numbers of " + of, func(q *question) { *list(q) = nil }, api.ErrEmpty},
		{of, "too many numbers of " + of, func(q *question) { *list(q) = make([]int, most+1) }, api.ErrMany},
		{of, "a number of " + of, func(q *question) { *list(q) = []int{0, 0, 10000} }, api.ErrRange},
	}
}

func errorsOfHandicaps(of string, list func(q *question) *[]int) []flaw {
	return []flaw{
		{of, "a player alone of " + of, func(q *question) { *list(q) = []int{100} }, api.ErrShape},
		{of, "five players of " + of, func(q *question) { *list(q) = []int{100, 0, 0, 0, 0} }, api.ErrShape},
		{of, "handicap strokes of " + of, func(q *question) { *list(q) = []int{0, -100} }, api.ErrRange},
	}
}

// errorsOfLists are flaws of lists of numbers, in their order: of the first list, of the second one, and of the third one.
func errorsOfLists(of string, number int, lists func(q *question) *[][]int) []flaw {
	var l []flaw
	for i := range 3 {
		list := func(q *question) *[]int {
			l := lists(q)
			for len(*l) <= i {
				*l = append(*l, []int{1, 1})
			}
			return &(*l)[i]
		}
		l = append(l,
			flaw{of, "an empty list of " + of, func(q *question) { *list(q) = nil }, api.ErrEmpty},
			flaw{of, "a long list of " + of, func(q *question) { *list(q) = make([]int, 37) }, api.ErrMany},
			flaw{of, "a number in a list of " + of, func(q *question) { *list(q) = []int{1, 1, number} }, api.ErrRange})
		if i > 0 {
			shorter := flaw{of, "a shorter list of " + of, func(q *question) { list(q); *list(q) = []int{1} }, api.ErrShape}
			l = append(l, shorter)
		}
	}
	return l
}

// errorsInOrder are flaws of all arguments, in the order in which these are looked at.
func errorsInOrder() []flaw {
	lists := func(q *question) *[][]int { return &q.lists }
	strokes := func(q *question) *[][]int { return &q.strokes }
	state := func(s format.State) func(q *question) { return func(q *question) { q.state = s } }
	var l []flaw
	add := func(more ...flaw) { l = append(l, more...) }
	add(errorsOfHoles()...)
	add(flaw{"handicap", "handicap strokes", func(q *question) { q.handicap = -100 }, api.ErrRange})
	add(flaw{"field", "201 players", func(q *question) { q.field = make([]format.Player, 201) }, api.ErrMany})
	add(errorsOfPlayers("field", func(q *question) *[]format.Player { return &q.field })...)
	add(flaw{"side", "no players", func(q *question) { q.side = nil }, api.ErrShape})
	add(flaw{"side", "a player alone", func(q *question) { q.side = []format.Player{adam()} }, api.ErrShape})
	add(flaw{"side", "five players", func(q *question) { q.side = make([]format.Player, 5) }, api.ErrShape})
	add(errorsOfPlayers("side", func(q *question) *[]format.Player { return &q.side })...)
	add(errorsOfPlayer("p", "the player", func(q *question) *format.Player { return &q.p })...)
	add(errorsOfPlayer("q", "the other player", func(q *question) *format.Player { return &q.q })...)
	add(flaw{"names", "one name of both", func(q *question) { q.q.Card.Player = q.p.Card.Player }, api.ErrTwice})
	add(flaw{"whole", "a hole not played", func(q *question) {
		if len(q.p.Card.Entries) > 3 {
			q.p = copiedPlayers(q.p)[0]
			q.p.Card.Entries[3] = api.Entry{Mark: "-"}
		}
	}, api.ErrNone})
	add(errorsOfNets("a", func(q *question) *[]format.Net { return &q.a })...)
	add(errorsOfNets("b", func(q *question) *[]format.Net { return &q.b })...)
	add(flaw{"holes", "another number of holes", func(q *question) { q.b = append(q.b, format.Net{}) }, api.ErrShape})
	add(flaw{"state", "holes to play", state(format.State{Up: 40, To: 37}), api.ErrRange})
	add(flaw{"state", "holes up", state(format.State{Up: -37, To: 36}), api.ErrRange})
	add(flaw{"state", "a state that is not over", state(format.State{Up: -3, To: 3}), api.ErrState})
	add(flaw{"state", "a state that does not say so", state(format.State{Up: -3, To: 2}), api.ErrForm})
	add(errorsOfHandicaps("two", func(q *question) *[]int { return &q.two })...)
	add(flaw{"two", "three players", func(q *question) { q.two = []int{0, 0, 0} }, api.ErrShape})
	add(errorsOfHandicaps("some", func(q *question) *[]int { return &q.some })...)
	add(errorsOfNumbers("scores", 200, func(q *question) *[]int { return &q.scores })...)
	add(flaw{"count", "a count of none", func(q *question) { q.count = 0 }, api.ErrRange})
	add(errorsOfNumbers("x", 36, func(q *question) *[]int { return &q.x })...)
	add(errorsOfNumbers("y", 36, func(q *question) *[]int { return &q.y })...)
	add(flaw{"lengths", "another length", func(q *question) { q.y = append(q.y, 0) }, api.ErrShape})
	add(flaw{"lists", "no lists", func(q *question) { q.lists = nil }, api.ErrEmpty})
	add(flaw{"lists", "201 lists", func(q *question) { q.lists = make([][]int, 201) }, api.ErrMany})
	add(errorsOfLists("lists", -10000, lists)...)
	add(flaw{"strokes", "nobody", func(q *question) { q.strokes = nil }, api.ErrShape})
	add(flaw{"strokes", "one who is alone", func(q *question) { q.strokes = [][]int{{}} }, api.ErrShape})
	add(flaw{"strokes", "201 players of a play-off", func(q *question) { q.strokes = make([][]int, 201) }, api.ErrMany})
	add(errorsOfLists("strokes", 100, strokes)...)
	return l
}

func TestP5_1ErrorsInOrder(t *testing.T) {
	answered(t, "a fresh question", fresh(), func(answer) api.Errno { return api.OK })
	inOrder(t, errorsInOrder()...)
}

func TestP5_1CheckPlayer(t *testing.T) {
	many := api.Hole{Par: 3, Index: 1}
	for _, c := range []struct {
		name string
		h    []api.Hole
		p    format.Player
		want api.Errno
	}{
		{"the player A", four(), adam(), api.OK},
		{"all marks", four(), player("A", 0, "1 99c x -"), api.OK},
		{"one hole", inLine(1), player("A", 0, "4"), api.OK},
		{"36 holes", inLine(36), player("A", 0, strings.Repeat("4 ", 36)), api.OK},
		{"37 holes", inLine(37), player("A", 0, strings.Repeat("4 ", 37)), api.ErrMany},
		{"no holes", nil, player("A", 0, ""), api.ErrEmpty},
		{"holes with one index", []api.Hole{many, many}, player("A", 0, "4 4"), api.ErrTwice},
		{"no name", four(), player("", 0, "4 4 4 4"), api.ErrName},
		{"a long name", four(), player(strings.Repeat("a", 24), 0, "4 4 4 4"), api.OK},
		{"too long a name", four(), player(strings.Repeat("a", 25), 0, "4 4 4 4"), api.ErrName},
		{"one entry more", four(), player("A", 0, "4 4 4 4 4"), api.ErrShape},
		{"no entries", four(), player("A", 0, ""), api.ErrShape},
		{"no strokes", four(), player("A", 0, "4 4 4 0"), api.ErrRange},
		{"no strokes and a concession", four(), player("A", 0, "4 4 4 0c"), api.ErrRange},
		{"100 strokes", four(), player("A", 0, "100 4 4 4"), api.ErrRange},
		{"another mark", four(), player("A", 0, "4 4 4 4C"), api.ErrKind},
		{"the most handicap strokes", four(), player("A", format.MaxHandicap, "4 4 4 4"), api.OK},
		{"more", four(), player("A", format.MaxHandicap+1, "4 4 4 4"), api.ErrRange},
		{"the fewest", four(), player("A", -99, "4 4 4 4"), api.OK},
		{"fewer", four(), player("A", -100, "4 4 4 4"), api.ErrRange},
	} {
		is(t, c.name, format.CheckPlayer(c.h, c.p), c.want)
		is(t, c.name+" in a field", format.CheckField(format.Field{Holes: c.h, Players: []format.Player{c.p}}), c.want)
	}
	is(t, "the greatest number of handicap strokes", format.MaxHandicap, 99)
}

func TestP5_1CheckField(t *testing.T) {
	random := rand.New(rand.NewSource(1))
	most := randomPlayers(random, 4, 200, 2)
	more := randomPlayers(random, 4, 201, 2)
	for _, c := range []struct {
		name string
		f    format.Field
		want api.Errno
	}{
		{"nobody", format.Field{Holes: four()}, api.OK},
		{"nobody and nothing", format.Field{}, api.ErrEmpty},
		{"200 players", format.Field{Holes: four(), Players: most}, api.OK},
		{"201 players", format.Field{Holes: four(), Players: more}, api.ErrMany},
		{"names that differ in a letter", format.Field{Holes: four(), Players: []format.Player{player("A", 0, "x x x x"), player("a", 0, "x x x x")}}, api.OK},
		{"a name twice, not one behind the other", format.Field{Holes: four(), Players: []format.Player{adam(), eve(), adam()}}, api.ErrTwice},
		{"a name twice, of which one has an error", format.Field{Holes: four(), Players: []format.Player{adam(), eve(), player("A", 100, "4 4 4 4")}}, api.ErrRange},
		{"a name twice before an error", format.Field{Holes: four(), Players: []format.Player{adam(), adam(), player("?", 100, "4 4 4 4")}}, api.ErrTwice},
	} {
		is(t, c.name, format.CheckField(c.f), c.want)
		_, _, e := format.Leaders(c.f)
		is(t, "the leaders of "+c.name, e, c.want)
	}
}
