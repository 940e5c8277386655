package card_test

import (
	"math"
	"strings"
	"testing"

	"niblick/api"
	"niblick/card"
)

// holes returns so many holes with the indices from the last one to the first one.
func holes(n int) []api.Hole {
	l := make([]api.Hole, n)
	for i := range l {
		l[i] = api.Hole{Par: 3 + i%4, Index: n - i}
	}
	return l
}

// changed returns holes with one in the place of another one.
func changed(n, at int, hole api.Hole) []api.Hole {
	l := holes(n)
	l[at] = hole
	return l
}

var holeErrors = []struct {
	name  string
	holes []api.Hole
	want  api.Errno
}{
	{"nil", nil, api.ErrEmpty},
	{"empty", []api.Hole{}, api.ErrEmpty},
	{"37 holes", holes(37), api.ErrMany},
	{"many before a range", changed(37, 0, api.Hole{}), api.ErrMany},
	{"par 2", changed(2, 0, api.Hole{Par: 2, Index: 2}), api.ErrRange},
	{"par 7", changed(2, 1, api.Hole{Par: 7, Index: 1}), api.ErrRange},
	{"the least par", changed(2, 1, api.Hole{Par: math.MinInt, Index: 1}), api.ErrRange},
	{"index 0", changed(2, 1, api.Hole{Par: 4, Index: 0}), api.ErrRange},
	{"index 3 of 2", changed(2, 1, api.Hole{Par: 4, Index: 3}), api.ErrRange},
	{"an index below 0", changed(2, 0, api.Hole{Par: 4, Index: -1}), api.ErrRange},
	{"a great index", changed(2, 0, api.Hole{Par: 4, Index: math.MaxInt}), api.ErrRange},
	{"an index twice", changed(3, 2, api.Hole{Par: 4, Index: 3}), api.ErrTwice},
	{"the par before an index twice", changed(3, 2, api.Hole{Par: 2, Index: 3}), api.ErrRange},
	{"an index twice before a later par", append(changed(2, 1, api.Hole{Par: 4, Index: 2}), api.Hole{Par: 9}), api.ErrTwice},
	{"a par before a later index twice", []api.Hole{{Par: 9, Index: 1}, {Par: 4, Index: 1}}, api.ErrRange},
	{"36 holes, the last one wrong", changed(36, 35, api.Hole{Par: 4, Index: 36}), api.ErrTwice},
}

func TestP1_6CheckHoles(t *testing.T) {
	for _, x := range holeErrors {
		is(t, x.name, card.CheckHoles(x.holes), x.want)
		is(t, x.name, card.CheckCard(x.holes, api.Card{}), x.want)
	}
	for n := 1; n <= 36; n++ {
		is(t, "holes", card.CheckHoles(holes(n)), api.OK)
	}
	for par := 3; par <= 6; par++ {
		is(t, "a par", card.CheckHoles([]api.Hole{{Par: par, Index: 1}}), api.OK)
	}
}

var entryErrors = []struct {
	name  string
	entry api.Entry
	want  api.Errno
}{
	{"no mark", api.Entry{Strokes: 4, Mark: "X"}, api.ErrKind},
	{"two marks", api.Entry{Strokes: 0, Mark: "xx"}, api.ErrKind},
	{"a blank", api.Entry{Strokes: 4, Mark: " "}, api.ErrKind},
	{"the mark before the strokes", api.Entry{Strokes: -1, Mark: "y"}, api.ErrKind},
	{"no strokes", api.Entry{}, api.ErrRange},
	{"100 strokes", api.Entry{Strokes: 100}, api.ErrRange},
	{"strokes below 0", api.Entry{Strokes: -1}, api.ErrRange},
	{"conceded without strokes", api.Entry{Mark: "c"}, api.ErrRange},
	{"conceded with 100", api.Entry{Strokes: 100, Mark: "c"}, api.ErrRange},
	{"picked up with strokes", api.Entry{Strokes: 1, Mark: "x"}, api.ErrRange},
	{"picked up below 0", api.Entry{Strokes: -1, Mark: "x"}, api.ErrRange},
	{"not played with strokes", api.Entry{Strokes: 3, Mark: "-"}, api.ErrRange},
	{"many strokes", api.Entry{Strokes: math.MaxInt}, api.ErrRange},
}

func TestP1_6CheckCard(t *testing.T) {
	two := []api.Entry{{Strokes: 4}, {Mark: "x"}}
	is(t, "a card", card.CheckCard(holes(2), api.Card{Player: "ann", Entries: two}), api.OK)
	all := []api.Entry{{Strokes: 1}, {Strokes: 99}, {Strokes: 1, Mark: "c"}, {Strokes: 99, Mark: "c"}, {Mark: "x"}, {Mark: "-"}}
	is(t, "all entries", card.CheckCard(holes(6), api.Card{Player: "A_1", Entries: all}), api.OK)
	is(t, "36 entries", card.CheckCard(holes(36), api.Card{Player: "a", Entries: repeated(36, all[0])}), api.OK)
	for _, x := range []struct {
		name string
		h    []api.Hole
		card api.Card
		want api.Errno
	}{
		{"no holes", nil, api.Card{Player: "1"}, api.ErrEmpty},
		{"no name", holes(2), api.Card{Entries: two}, api.ErrName},
		{"a wrong name", holes(2), api.Card{Player: "1a", Entries: two}, api.ErrName},
		{"the name before the shape", holes(3), api.Card{Player: "a b", Entries: two}, api.ErrName},
		{"an entry is missing", holes(3), api.Card{Player: "ann", Entries: two}, api.ErrShape},
		{"an entry too many", holes(1), api.Card{Player: "ann", Entries: two}, api.ErrShape},
		{"no entries", holes(1), api.Card{Player: "ann"}, api.ErrShape},
		{"the shape before an entry", holes(3), api.Card{Player: "ann", Entries: make([]api.Entry, 2)}, api.ErrShape},
	} {
		is(t, x.name, card.CheckCard(x.h, x.card), x.want)
	}
	for _, x := range entryErrors {
		is(t, x.name, card.CheckCard(holes(2), api.Card{Player: "ann", Entries: []api.Entry{{Strokes: 4}, x.entry}}), x.want)
		for _, y := range entryErrors {
			is(t, x.name+" first", card.CheckCard(holes(2), api.Card{Player: "ann", Entries: []api.Entry{x.entry, y.entry}}), x.want)
		}
	}
}

// repeated returns an entry so many times.
func repeated(n int, entry api.Entry) []api.Entry {
	l := make([]api.Entry, n)
	for i := range l {
		l[i] = entry
	}
	return l
}

func TestP1_6Parse(t *testing.T) {
	four := api.Entry{Strokes: 4}
	for _, x := range []struct {
		text string
		want []api.Entry
	}{
		{"3*4 5 6c x - 2*3 | 4", []api.Entry{four, four, four, {Strokes: 5}, {Strokes: 6, Mark: "c"}, {Mark: "x"}, {Mark: "-"}, {Strokes: 3}, {Strokes: 3}, four}},
		{"4", []api.Entry{four}},
		{"1", []api.Entry{{Strokes: 1}}},
		{"99", []api.Entry{{Strokes: 99}}},
		{"1c 99c", []api.Entry{{Strokes: 1, Mark: "c"}, {Strokes: 99, Mark: "c"}}},
		{"-", []api.Entry{{Mark: "-"}}},
		{"2*x", []api.Entry{{Mark: "x"}, {Mark: "x"}}},
		{"2*-", []api.Entry{{Mark: "-"}, {Mark: "-"}}},
		{"2*7c 7", []api.Entry{{Strokes: 7, Mark: "c"}, {Strokes: 7, Mark: "c"}, {Strokes: 7}}},
		{"36*4", repeated(36, four)},
		{"9*4 | 9*4 | 9*4 | 9*4", repeated(36, four)},
		{"18*4 | 18*4", repeated(36, four)},
		{"20*4", repeated(20, four)},
		{"9*4 4", repeated(10, four)},
		{"9*4 | 2*4 7*4 | 4", repeated(19, four)},
		{"5*4 5*4", repeated(10, four)},
	} {
		l, at, e := card.Parse(x.text)
		gives(t, x.text, l, e, x.want)
		is(t, x.text, at, 0)
	}
}

func TestP1_6ParseErrors(t *testing.T) {
	for _, x := range []struct {
		text string
		word int
		want api.Errno
	}{
		{"", 0, api.ErrEmpty},
		{" ", 1, api.ErrSyntax}, {" 4", 1, api.ErrSyntax}, {"4 ", 2, api.ErrSyntax}, {"4  5", 2, api.ErrSyntax}, {"4 5  ", 3, api.ErrSyntax}, {"9*4 | ", 3, api.ErrSyntax},
		{"4\t5", 1, api.ErrSyntax}, {"4\n", 1, api.ErrSyntax}, {"4 5\n", 2, api.ErrSyntax},
		{"04", 1, api.ErrSyntax}, {"00", 1, api.ErrSyntax}, {"+4", 1, api.ErrSyntax}, {"-4", 1, api.ErrSyntax}, {"4-", 1, api.ErrSyntax}, {"4x", 1, api.ErrSyntax}, {"4 xx", 2, api.ErrSyntax}, {"--", 1, api.ErrSyntax}, {"X", 1, api.ErrSyntax}, {"C", 1, api.ErrSyntax}, {"c", 1, api.ErrSyntax}, {"4C", 1, api.ErrSyntax}, {"4cc", 1, api.ErrSyntax}, {"04c", 1, api.ErrSyntax}, {"xc", 1, api.ErrSyntax}, {"4.5", 1, api.ErrSyntax}, {"\u0664", 1, api.ErrSyntax}, {"4\x00", 1, api.ErrSyntax},
		{"1000000000", 1, api.ErrSyntax}, {"1000000000c", 1, api.ErrSyntax}, {"1000000000*4", 1, api.ErrSyntax}, {"2*1000000000", 1, api.ErrSyntax}, {long("9", 40), 1, api.ErrSyntax},
		{"*", 1, api.ErrSyntax}, {"*4", 1, api.ErrSyntax}, {"2*", 1, api.ErrSyntax}, {"2**4", 1, api.ErrSyntax}, {"4 2*2*4", 2, api.ErrSyntax}, {"02*4", 1, api.ErrSyntax}, {"2*04", 1, api.ErrSyntax}, {"x*4", 1, api.ErrSyntax}, {"2c*4", 1, api.ErrSyntax}, {"-2*4", 1, api.ErrSyntax}, {"2*|", 1, api.ErrSyntax}, {"9*4|", 1, api.ErrSyntax}, {"||", 1, api.ErrSyntax}, {"2* 4", 1, api.ErrSyntax}, {"3 * 4", 2, api.ErrSyntax},
		{"100*y", 1, api.ErrSyntax}, {"0*04", 1, api.ErrSyntax}, {"a*100", 1, api.ErrSyntax},
		{"0", 1, api.ErrRange}, {"100", 1, api.ErrRange}, {"999999999", 1, api.ErrRange}, {"0c", 1, api.ErrRange}, {"4 100c", 2, api.ErrRange},
		{"1*4", 1, api.ErrRange}, {"0*4", 1, api.ErrRange}, {"37*4", 1, api.ErrRange}, {"999999999*x", 1, api.ErrRange}, {"2*0", 1, api.ErrRange}, {"2*100", 1, api.ErrRange}, {"1*x", 1, api.ErrRange}, {"2*0c", 1, api.ErrRange},
		{"36*4 37*4", 2, api.ErrRange}, {"36*4 0", 2, api.ErrRange}, {"36*4 2*0", 2, api.ErrRange},
		{"|", 1, api.ErrOrder}, {"| 5", 1, api.ErrOrder}, {"4 | 5", 2, api.ErrOrder}, {"8*4 | 4", 2, api.ErrOrder}, {"10*4 | 4", 2, api.ErrOrder}, {"9*4 | 8*4 | 4", 4, api.ErrOrder},
		{"9*4 |", 2, api.ErrOrder}, {"9*4 | |", 3, api.ErrOrder}, {"9*4 | | 4", 3, api.ErrOrder}, {"36*4 |", 2, api.ErrOrder}, {"4 |", 2, api.ErrOrder},
		{"36*4 x", 2, api.ErrMany}, {"36*4 | x", 3, api.ErrMany}, {"35*4 2*4", 2, api.ErrMany}, {"20*4 20*4", 2, api.ErrMany}, {"36*4 36*4", 2, api.ErrMany},
		{"5 0 y", 2, api.ErrRange}, {"5 y 0", 2, api.ErrSyntax}, {"4 | y", 2, api.ErrOrder}, {"36*4 4 y", 2, api.ErrMany},
		{strings.Repeat("4 ", 2047) + "44", 37, api.ErrMany},
		{long("9", 4096), 1, api.ErrSyntax},
		{long("9", 4097), 0, api.ErrLong}, {long(" ", 4097), 0, api.ErrLong}, {long("4 ", 3000), 0, api.ErrLong},
	} {
		l, at, e := card.Parse(x.text)
		fails(t, x.text, l, e, x.want)
		is(t, "the word of "+x.text, at, x.word)
	}
}

func TestP1_6Print(t *testing.T) {
	four, five := api.Entry{Strokes: 4}, api.Entry{Strokes: 5}
	conceded, up, open := api.Entry{Strokes: 4, Mark: "c"}, api.Entry{Mark: "x"}, api.Entry{Mark: "-"}
	for _, x := range []struct {
		l    []api.Entry
		want string
	}{
		{[]api.Entry{four}, "4"},
		{[]api.Entry{{Strokes: 99}, {Strokes: 99, Mark: "c"}, up, open}, "99 99c x -"},
		{[]api.Entry{four, four}, "4 4"},
		{repeated(3, four), "3*4"},
		{repeated(8, conceded), "8*4c"},
		{repeated(9, up), "9*x"},
		{repeated(10, open), "9*- | -"},
		{repeated(11, four), "9*4 | 4 4"},
		{repeated(12, four), "9*4 | 3*4"},
		{repeated(18, four), "9*4 | 9*4"},
		{repeated(36, four), "9*4 | 9*4 | 9*4 | 9*4"},
		{append(repeated(3, four), repeated(4, conceded)...), "3*4 4*4c"},
		{append(repeated(2, four), repeated(4, five)...), "4 4 4*5"},
		{append(repeated(7, five), repeated(4, four)...), "7*5 4 4 | 4 4"},
		{append(repeated(6, five), repeated(4, four)...), "6*5 3*4 | 4"},
		{[]api.Entry{four, five, four, five, four, four, five, five, five, four}, "4 5 4 5 4 4 3*5 | 4"},
	} {
		s, e := card.Print(x.l)
		gives(t, x.want, s, e, x.want)
	}
	for _, x := range []struct {
		l    []api.Entry
		want api.Errno
	}{
		{nil, api.ErrEmpty},
		{[]api.Entry{}, api.ErrEmpty},
		{repeated(37, four), api.ErrMany},
		{repeated(37, api.Entry{Mark: "y"}), api.ErrMany},
	} {
		s, e := card.Print(x.l)
		fails(t, "print", s, e, x.want)
	}
	for _, x := range entryErrors {
		s, e := card.Print([]api.Entry{four, x.entry})
		fails(t, x.name, s, e, x.want)
		for _, y := range entryErrors {
			s, e = card.Print([]api.Entry{x.entry, y.entry})
			fails(t, x.name, s, e, x.want)
		}
	}
}

func TestP1_6NormalForms(t *testing.T) {
	for _, x := range []struct{ text, want string }{
		{"3*4 5 6c x - 2*3 | 4", "3*4 5 6c x - 3 3 | 4"},
		{"20*4 x", "9*4 | 9*4 | 4 4 x"},
		{"4 4 4", "3*4"},
		{"2*4 2*4", "4*4"},
		{"2*x", "x x"},
		{"9*4 4", "9*4 | 4"},
		{"4 4c 4", "4 4c 4"},
	} {
		l, _, e := card.Parse(x.text)
		is(t, "error", e, api.OK)
		s, e := card.Print(l)
		gives(t, x.text, s, e, x.want)
	}
}
