package union_test

import (
	"fmt"
	"math/rand"
	"slices"
	"strings"
	"testing"

	"niblick/api"
	"niblick/union"
)

// accepted checks the union after events that are all accepted.
func accepted(t *testing.T, lines []string, want union.Union) {
	t.Helper()
	got, e := replay(events(lines...))
	gives(t, strings.Join(lines, ", "), got, e, replayed{union: want})
}

// refused checks the error of a line after events.
func refused(t *testing.T, lines []string, line string, want api.Errno) {
	t.Helper()
	is(t, line, union.Accepts(events(lines...), occurrence(len(lines)+1, line)), want)
}

func TestP10_4Examples(t *testing.T) {
	accepted(t, sampleLines(), sample())
	lines := append(sampleLines(), "claim ann 2 3", "sign ann")
	refused(t, lines, "round one", api.ErrState)
	lines = append(lines, "ruling ben 1 x", "ruling ben 2 4", "sign ben")
	refused(t, lines, "round one", api.OK)
	want := sample()
	want.Marks = nil
	want.Past = []union.Kept{{Name: "one", Holes: holes("4:2 3:1"), Cards: []api.Card{{Player: "ann", Entries: entries("5 3")}, {Player: "ben", Entries: entries("x 4")}}}}
	accepted(t, append(lines, "round one"), want)
}

func TestP10_4Marks(t *testing.T) {
	lines := append(sampleLines(), "member cem links -3")
	u := sample()
	u.Members = append(u.Members, union.Member{Name: "cem", Club: "links", Handicap: -3})
	for _, x := range []struct {
		lines string
		want  []union.Mark
	}{
		{"mark ann ben 1 6", marks("ann ben 1 6", "ann ann 1 5", "ann ben 2 3", "ben ann 1 4")},
		{"mark ann cem 1 6c", marks("ann cem 1 6c", "ann ann 1 5", "ann ben 2 3", "ben ann 1 4")},
		{"claim ann 1 -", marks("ann ben 1 5", "ann ann 1 -", "ann ben 2 3", "ben ann 1 4")},
		{"claim ben 1 x", marks("ann ben 1 5", "ann ann 1 5", "ann ben 2 3", "ben ann 1 4", "ben ben 1 x")},
		{"mark cem ben 2 99", marks("ann ben 1 5", "ann ann 1 5", "ann ben 2 3", "ben ann 1 4", "cem ben 2 99")},
		{"ruling ann 1 6", marks("ann ben 1 6", "ann ann 1 6", "ann ben 2 3", "ben ann 1 4")},
		{"ruling ann 2 6", marks("ann ben 1 5", "ann ann 1 5", "ann ben 2 6", "ben ann 1 4", "ann ann 2 6")},
		{"ruling ben 2 6", marks("ann ben 1 5", "ann ann 1 5", "ann ben 2 3", "ben ann 1 4", "ben ann 2 6", "ben ben 2 6")},
		{"mark ann cem 2 4,ruling ann 2 6", marks("ann ben 1 5", "ann ann 1 5", "ann cem 2 6", "ben ann 1 4", "ann ann 2 6")},
		{"claim cem 1 4,ruling cem 1 6", marks("ann ben 1 5", "ann ann 1 5", "ann ben 2 3", "ben ann 1 4", "cem cem 1 6", "cem ann 1 6")},
		{"claim ann 2 3,sign ann,ruling ann 2 7", marks("ann ben 1 5", "ann ann 1 5", "ann ben 2 7", "ben ann 1 4", "ann ann 2 7")},
	} {
		want := u
		want.Marks = x.want
		if strings.Contains(x.lines, "sign") {
			want.Signed = []string{"ann"}
		}
		accepted(t, append(slices.Clone(lines), strings.Split(x.lines, ",")...), want)
	}
	// The first other member of a ruling about the first member is the second one.
	got, e := replay(events(append(sampleLines()[:4:4], "ruling ann 1 4")...))
	is(t, "by ben", ok(t, got, e).union.Marks, marks("ann ben 1 4", "ann ann 1 4"))
}

func TestP10_4Rounds(t *testing.T) {
	lines := append(sampleLines()[:4:4],
		"ruling ben 1 3", "ruling ann 1 4", "ruling ben 2 x", "ruling ann 2 3", "sign ben", "sign ann", "round one",
		"member cem links 0", "holes 5:1", "ruling cem 1 6", "mark ben ann 1 5", "claim ben 1 5", "sign cem", "sign ben", "round two")
	u := sample()
	u.Members = append(u.Members, union.Member{Name: "cem", Club: "links"})
	u.Holes, u.Marks = holes("5:1"), nil
	u.Past = []union.Kept{
		{Name: "one", Holes: holes("4:2 3:1"), Cards: []api.Card{{Player: "ann", Entries: entries("4 3")}, {Player: "ben", Entries: entries("3 x")}}},
		{Name: "two", Holes: holes("5:1"), Cards: []api.Card{{Player: "ben", Entries: entries("5")}, {Player: "cem", Entries: entries("6")}}},
	}
	accepted(t, lines, u)
	got, e := replay(events(lines[:10]...))
	is(t, "in the order of the signatures", ok(t, got, e).union.Signed, []string{"ben", "ann"})
	refused(t, lines, "round one", api.ErrTwice)
	refused(t, lines, "round two", api.ErrTwice)
	refused(t, lines, "round three", api.ErrEmpty)
	refused(t, append(lines, "mark ann ben 1 5"), "round three", api.ErrEmpty)
}

func TestP10_4Undo(t *testing.T) {
	lines := append(sampleLines(), "claim ann 2 3", "sign ann", "undo")
	u := sample()
	u.Marks = append(u.Marks, marks("ann ann 2 3")...)
	accepted(t, lines, u)
	accepted(t, append(lines, "undo"), sample())
	accepted(t, append(lines, "undo", "mark ann ben 1 9", "undo"), sample())
	u = sample()
	u.Marks = u.Marks[:3]
	accepted(t, append(lines, "undo", "undo"), u)
	refused(t, []string{"club links", "undo"}, "undo", api.ErrEmpty)
	refused(t, nil, "undo", api.ErrEmpty)
	refused(t, []string{"club links", "undo"}, "club links", api.OK)
	// What a round has ended is there again.
	lines = append(sampleLines()[:4:4], "ruling ann 1 4", "ruling ann 2 3", "sign ann", "round one", "undo")
	u = sample()
	u.Marks, u.Signed = marks("ann ben 1 4", "ann ann 1 4", "ann ben 2 3", "ann ann 2 3"), []string{"ann"}
	accepted(t, lines, u)
}

// Each line has all errors that are named behind its own one and can occur together with it.
func TestP10_4ErrorsInOrder(t *testing.T) {
	lines := append(sampleLines(), "claim ann 2 3", "sign ann")
	for _, x := range []struct {
		line string
		want api.Errno
	}{
		{"club links", api.ErrTwice}, {"club Links", api.OK}, {"club ann", api.OK},
		{"member ann sea x", api.ErrUnknown}, {"member ann links x", api.ErrTwice}, {"member eva ann 0", api.ErrUnknown},
		{"member eva links ", api.ErrSyntax}, {"member eva links -0", api.ErrSyntax}, {"member eva links 00", api.ErrSyntax}, {"member eva links +1", api.ErrSyntax},
		{"member eva links 1 ", api.ErrSyntax}, {"member eva links -", api.ErrSyntax}, {"member eva links --1", api.ErrSyntax}, {"member eva links 1000000000", api.ErrSyntax}, {"member eva links -1000000000", api.ErrSyntax},
		{"member eva links 99999999999999999999", api.ErrSyntax}, {"member eva links 999999999", api.ErrRange}, {"member eva links -999999999", api.ErrRange},
		{"member eva links 100", api.ErrRange}, {"member eva links -100", api.ErrRange}, {"member eva links 99", api.OK}, {"member eva links -99", api.OK},
		{"holes x", api.ErrState}, {"holes 4:1", api.ErrState},
		{"mark eva eva 3 y", api.ErrUnknown}, {"mark ann eva 3 y", api.ErrUnknown}, {"mark eva ann 3 y", api.ErrUnknown},
		{"mark ann ann 3 y", api.ErrTwice}, {"mark ann ben 3 y", api.ErrUnknown}, {"mark ann ben 0 y", api.ErrUnknown},
		{"mark ann ben 1 y", api.ErrSyntax}, {"mark ann ben 1 0", api.ErrRange}, {"mark ann ben 1 4", api.ErrOver}, {"mark ben ann 1 4", api.OK},
		{"claim eva 3 y", api.ErrUnknown}, {"claim ann 3 y", api.ErrUnknown}, {"claim ann 1 y", api.ErrSyntax}, {"claim ann 1 100", api.ErrRange}, {"claim ann 1 5", api.ErrOver}, {"claim ben 1 5", api.OK},
		{"ruling eva 3 y", api.ErrUnknown}, {"ruling ann 3 y", api.ErrUnknown}, {"ruling ann 1 y", api.ErrSyntax}, {"ruling ann 1 100c", api.ErrRange}, {"ruling ann 1 5", api.OK},
		{"sign eva", api.ErrUnknown}, {"sign ann", api.ErrOver}, {"sign ben", api.ErrNone},
		{"round one", api.ErrState}, {"undo", api.OK},
	} {
		refused(t, lines, x.line, x.want)
	}
	for _, text := range []string{"", " ", "5 ", " 5", "5 6", "2*4", "|", "5|", "05", "+5", "-5", "5d", "cc", "c", "xc", "-c", "5x", "X", "1000000000", "1000000000c", "٣"} {
		refused(t, lines, "claim ben 1 "+text, api.ErrSyntax)
	}
	for _, text := range []string{"0", "0c", "100", "100c", "999999999"} {
		refused(t, lines, "claim ben 1 "+text, api.ErrRange)
	}
	for _, text := range []string{"1", "99", "1c", "99c", "x", "-"} {
		refused(t, lines, "claim ben 1 "+text, api.OK)
	}
	is(t, "a hole far away", union.Accepts(events(lines...), api.Event{Number: 11, Kind: "claim", Names: []string{"ben"}, Values: []int{999999999}, Text: "4"}), api.ErrUnknown)
}

func TestP10_4OtherErrors(t *testing.T) {
	club := []string{"club links", "member ann links 0"}
	for text, want := range map[string]api.Errno{
		"4:1": api.OK, "4:2 3:1": api.OK, "6:1": api.OK,
		"": api.ErrSyntax, " ": api.ErrSyntax, "4:1 ": api.ErrSyntax, " 4:1": api.ErrSyntax, "4:1  3:2": api.ErrSyntax, "4": api.ErrSyntax, "4:": api.ErrSyntax, ":1": api.ErrSyntax,
		"4:1:1": api.ErrSyntax, "4:01": api.ErrSyntax, "04:1": api.ErrSyntax, "-4:1": api.ErrSyntax, "4:-1": api.ErrSyntax, "4:1,3:2": api.ErrSyntax, "4:1000000000": api.ErrSyntax,
		"4:1 x": api.ErrSyntax, "7:1": api.ErrRange, "0:0": api.ErrRange, "4:999999999": api.ErrRange, "4:1 4:1": api.ErrTwice, "7:1 x": api.ErrSyntax,
		strings.TrimSpace(strings.Repeat("4:1 ", 37)): api.ErrMany, strings.TrimSpace(strings.Repeat("4:1 ", 1024)): api.ErrMany,
	} {
		refused(t, club, "holes "+text, want)
	}
	refused(t, club, "sign ann", api.ErrEmpty)
	refused(t, club, "round one", api.ErrEmpty)
	refused(t, append(club, "holes 4:1"), "ruling ann 1 4", api.ErrNone)
	refused(t, append(club, "holes 4:1"), "ruling ann 1 100", api.ErrRange)
	refused(t, append(club, "holes 4:1"), "claim ann 1 4", api.OK)
	refused(t, append(club, "holes 4:1", "claim ann 1 4"), "ruling ann 1 4", api.ErrNone)
	refused(t, append(club, "holes 4:1", "claim ann 1 4"), "sign ann", api.ErrNone)
	both := append(club, "member ben links 0", "holes 4:1", "claim ann 1 4", "mark ann ben 1 4")
	refused(t, both, "sign ann", api.OK)
	refused(t, append(both, "claim ann 1 4c"), "sign ann", api.ErrConflict)
	refused(t, append(both, "sign ann"), "round one", api.OK)
}

func TestP10_4Numbers(t *testing.T) {
	l := events("club links", "club moor")
	for n, want := range []api.Errno{api.ErrRange, api.ErrOrder, api.ErrOrder, api.OK, api.ErrOrder} {
		is(t, fmt.Sprint(n), union.Accepts(l, occurrence(n, "club sea")), want)
	}
	is(t, "a wrong number, and a club twice", union.Accepts(l, occurrence(4, "club links")), api.ErrOrder)
	is(t, "the first one", union.Accepts(nil, occurrence(2, "club sea")), api.ErrOrder)
	l[1].Number = 3
	got, e := replay(l)
	if e != api.ErrOrder || !alike(got, replayed{place: 2}) {
		t.Errorf("a number too high: %v, %d", got, e)
	}
	is(t, "the error of the events", union.Accepts(l, api.Event{}), api.ErrOrder)
	got, e = replay([]api.Event{{}})
	if e != api.ErrRange || !alike(got, replayed{place: 1}) {
		t.Errorf("no event: %v, %d", got, e)
	}
	got, e = replay(make([]api.Event, 1001))
	fails(t, "many events", got, e, api.ErrMany)
}

// undone returns so many events: a club, and others that are undone.
func undone(n int) []string {
	lines := []string{"club links"}
	for i := 1; i < n; i++ {
		lines = append(lines, []string{"club moor", "undo"}[(i-1)%2])
	}
	return lines
}

func TestP10_4Limits(t *testing.T) {
	l := events(undone(1001)...)
	got, e := replay(l)
	fails(t, "an event too many", got, e, api.ErrMany)
	got, e = replay(l[:1000])
	gives(t, "as many events as there may be", got, e, replayed{union: union.Union{Clubs: []string{"links", "moor"}}})
	is(t, "the last one", union.Accepts(l[:999], l[999]), api.OK)
	is(t, "one more", union.Accepts(l[:1000], occurrence(1001, "undo")), api.ErrRange)
	is(t, "one more", union.Accepts(l[:1000], occurrence(1000, "undo")), api.ErrMany)
	is(t, "one more", union.Accepts(l[:1000], occurrence(1, "club links")), api.ErrMany)
	is(t, "one without a kind", union.Accepts(l[:1000], api.Event{Number: 1}), api.ErrKind)
	is(t, "after too many", union.Accepts(l, api.Event{}), api.ErrMany)

	var lines []string
	for i := range 256 {
		lines = append(lines, fmt.Sprint("club c", i))
	}
	refused(t, lines[:255], "club more", api.OK)
	refused(t, lines, "club more", api.ErrMany)
	refused(t, lines, "club c7", api.ErrTwice)
	refused(t, lines, "member ann c0 0", api.OK)

	lines = []string{"club links"}
	for i := range 200 {
		lines = append(lines, fmt.Sprint("member m", i, " links 0"))
	}
	refused(t, lines[:200], "member more links 0", api.OK)
	refused(t, lines, "member more links 0", api.ErrMany)
	refused(t, lines, "member more links 100", api.ErrRange)
	refused(t, append(lines, "undo"), "member more links 0", api.OK)
}

// markLines returns events after which there are so many marks.
func markLines(n int) []string {
	var pars []string
	for i := range 36 {
		pars = append(pars, fmt.Sprint("4:", i+1))
	}
	lines := []string{"club links", "holes " + strings.Join(pars, " ")}
	for i := range 15 {
		lines = append(lines, fmt.Sprint("member m", i, " links 0"))
	}
	for i := range n / 2 {
		lines = append(lines, fmt.Sprint("ruling m", i%15, " ", 1+i/15, " 4"))
	}
	if n%2 == 1 {
		lines = append(lines, "claim m14 36 4")
	}
	return lines
}

func TestP10_4LimitOfMarks(t *testing.T) {
	for _, x := range []struct {
		marks int
		line  string
		want  api.Errno
	}{
		{998, "ruling m14 35 4", api.OK}, {998, "mark m14 m0 35 4", api.OK}, {998, "claim m14 35 4", api.OK},
		{999, "ruling m14 35 4", api.ErrMany}, {999, "mark m14 m0 35 4", api.OK}, {999, "claim m14 35 4", api.OK},
		{999, "ruling m14 36 5", api.OK}, // one half of it is there
		{1000, "ruling m14 35 4", api.ErrMany}, {1000, "mark m14 m0 35 4", api.ErrMany}, {1000, "claim m14 35 4", api.ErrMany},
		{1000, "ruling m0 1 5", api.OK}, {1000, "mark m0 m14 1 5", api.OK}, {1000, "claim m0 1 5", api.OK}, // in the places of others
		{1000, "claim m14 37 4", api.ErrUnknown}, {1000, "claim m14 36 0", api.ErrRange},
		{1000, "sign m0", api.ErrNone}, {1000, "club moor", api.OK}, {1000, "undo", api.OK},
	} {
		lines := markLines(x.marks)
		got, e := replay(events(lines...))
		is(t, "so many marks", len(ok(t, got, e).union.Marks), x.marks)
		is(t, "a union", union.CheckUnion(got.union), api.OK)
		refused(t, lines, x.line, x.want)
	}
}

func TestP10_4LimitOfRounds(t *testing.T) {
	lines := []string{"club links", "member ann links 0", "member ben links 0", "holes 4:1"}
	for i := range 256 {
		lines = append(lines, "ruling ann 1 4", "sign ann", fmt.Sprint("round r", i))
	}
	lines = append(lines, "ruling ann 1 4", "sign ann")
	refused(t, lines, "round more", api.ErrMany)
	refused(t, lines, "round r255", api.ErrTwice)
	refused(t, lines[:len(lines)-3], "round more", api.OK) // without the last one
}

// wild returns a line that may be wrong as an event, if it is one.
func wild(random *rand.Rand, u union.Union, n int) (api.Event, bool) {
	words := strings.Split(randomLine(random, u), " ")
	f, known := formOf(words[0])
	if !known || len(words) < 1+f.names+f.values {
		return api.Event{}, false
	}
	e := api.Event{Number: n, Kind: words[0], Names: words[1 : 1+f.names]}
	for _, word := range words[1+f.names : 1+f.names+f.values] {
		if !slowInteger.MatchString(word) {
			return api.Event{}, false
		}
		e.Values = append(e.Values, number(word))
	}
	e.Text = strings.Join(words[1+f.names+f.values:], " ")
	return e, true
}

// randomEvents returns events that are accepted, ahead of an event that may be none.
func randomEvents(random *rand.Rand, tries int) ([]api.Event, api.Event) {
	var l []api.Event
	if random.Intn(4) > 0 {
		l = events(someLines(random)...)
	}
	u := slowUnion(l)
	last := api.Event{Number: len(l) + 1, Kind: "undo"}
	for i := range tries {
		e, is := wild(random, u, len(l)+1)
		if is {
			last = e
		}
		if is && slowCheckEvent(e) == api.OK && slowRefusal(l, e) == api.OK && i < tries-1 {
			l = append(l, e)
			u = slowUnion(l)
			last.Number = len(l) + 1
		}
	}
	return l, last
}

func TestP10_4ByDefinition(t *testing.T) {
	random := rand.New(rand.NewSource(4))
	seen := map[string]int{}
	for range 1200 {
		l, e := randomEvents(random, 1+random.Intn(120))
		what := fmt.Sprintf("%+v %+v", l, e)
		want, _ := slowReplay(l)
		got, err := replay(l)
		gives(t, what, got, err, want)
		is(t, what, union.CheckUnion(got.union), api.OK)
		refusal := slowCheckEvent(e)
		if refusal == api.OK {
			refusal = slowRefusal(l, e)
		}
		is(t, what, union.Accepts(l, e), refusal)
		seen[fmt.Sprint(e.Kind, refusal)]++
		seen["rounds"] += len(got.union.Past)
		// Events that are left out, or come in another order, make others wrong.
		if len(l) > 1 {
			i := random.Intn(len(l) - 1)
			l[i], l[i+1] = l[i+1], l[i]
			l[i].Number, l[i+1].Number = i+1, i+2
			want, e := slowReplay(l)
			got, err := replay(l)
			is(t, what, got, want)
			is(t, what, err, e)
		}
	}
	is(t, fmt.Sprint("often different ", seen), len(seen) > 35 && seen["rounds"] > 150, true)
}
