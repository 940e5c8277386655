package union_test

import (
	"fmt"
	"math"
	"math/rand"
	"reflect"
	"slices"
	"strings"
	"testing"

	"niblick/api"
	"niblick/union"
)

// A signed card is the same for player and marker, also behind rulings.
func TestP10_7SignedCardsAgree(t *testing.T) {
	random := rand.New(rand.NewSource(11))
	signed := 0
	for range 500 {
		l, _ := randomEvents(random, 60)
		got, e := replay(l)
		u := ok(t, got, e).union
		for _, player := range u.Signed {
			signed++
			is(t, "can sign", union.Signable(u, player), api.OK)
			c, e := union.Card(u, player)
			// The player's marks instead of the marker's ones.
			own := u
			own.Marks, own.Signed = nil, nil
			for _, m := range u.Marks {
				if m.Player == player && m.By == player {
					m.By = u.Members[0].Name
					if m.By == player {
						m.By = u.Members[1].Name
					}
					own.Marks = append(own.Marks, m)
				}
			}
			other, e2 := union.Card(own, player)
			gives(t, fmt.Sprint(u), ok(t, c, e), e2, other)
		}
	}
	is(t, "often signed", signed > 100, true)
}

func shuffled[T any](random *rand.Rand, l []T) []T {
	l = slices.Clone(l)
	random.Shuffle(len(l), func(i, k int) { l[i], l[k] = l[k], l[i] })
	return l
}

// A follower shows the same in whatever order, and however often, messages arrive, and however followers are joined.
func TestP10_7FollowersAgree(t *testing.T) {
	random := rand.New(rand.NewSource(12))
	for range 300 {
		u := randomUnion(random)
		l := randomMessages(random, 3, 8, 20)
		f := received(t, l)
		want, e := union.Follow(u, f)
		ok(t, want, e)
		again := received(t, shuffled(random, append(slices.Clone(l), l[:random.Intn(len(l))]...)))
		is(t, "the messages", again, f)
		board, e := union.Follow(u, again)
		gives(t, "the board", board, e, want)
		n := random.Intn(len(l))
		join, e := union.Join(received(t, l[n:]), received(t, l[:n]))
		gives(t, "joined", join, e, f)
	}
}

// With all messages a follower shows the board of the marks.
func TestP10_7FollowersShowTheBoard(t *testing.T) {
	random := rand.New(rand.NewSource(13))
	boards := 0
	for range 400 {
		l, _ := randomEvents(random, 60)
		got, e := replay(l)
		u := ok(t, got, e).union
		// Whoever marks has a device; the messages have the numbers of all marks before, so that later ones replace earlier ones.
		number := map[string]int{}
		at := 0
		var sent []union.Message
		for _, m := range u.Marks {
			if m.By == m.Player {
				continue
			}
			// A device says nothing new until it has the number of this mark.
			for at++; number[m.By] < at; {
				number[m.By]++
				said := union.Message{Device: m.By, Number: number[m.By], Player: "zoe", Hole: 36, Entry: entry("x")}
				if number[m.By] == at {
					said.Player, said.Hole, said.Entry = m.Player, m.Hole, m.Entry
				}
				sent = append(sent, said)
			}
		}
		board, e := union.Board(u)
		ok(t, board, e)
		f := received(t, shuffled(random, sent))
		follow, e := union.Follow(u, f)
		gives(t, fmt.Sprint(u), follow, e, board)
		gaps, e := union.Gaps(f)
		gives(t, "no gap", gaps, e, nil)
		if len(board) > 1 {
			boards++
		}
	}
	is(t, "often with several players", boards > 50, true)
}

// Join is commutative, associative and idempotent.
func TestP10_7Join(t *testing.T) {
	random := rand.New(rand.NewSource(14))
	join := func(a, b union.Follower) union.Follower {
		f, e := union.Join(a, b)
		return ok(t, f, e)
	}
	for range 500 {
		l := randomMessages(random, 3, 8, 30)
		part := func() union.Follower { return received(t, shuffled(random, l)[:random.Intn(len(l))]) }
		a, b, c := part(), part(), part()
		is(t, "commutative", join(a, b), join(b, a))
		is(t, "associative", join(join(a, b), c), join(a, join(b, c)))
		is(t, "idempotent", join(a, a), a)
		is(t, "again", join(join(a, b), b), join(a, b))
	}
}

// A record with a changed byte is noticed: nothing from it on is taken for a record.
func TestP10_7ChangedBytes(t *testing.T) {
	lines := []string{"club links", "member ann links 0", "holes 4:2 3:1", "claim ann 1 5c", "undo"}
	log := slowLog(events(lines...))
	for i := range len(log) {
		whole := strings.Count(log[:i], "\n")
		for b := range 256 {
			if byte(b) == log[i] {
				continue
			}
			changed := log[:i] + string([]byte{byte(b)}) + log[i+1:]
			got, e := recoverLog(changed)
			is(t, fmt.Sprintf("%q", changed), got.events, events(lines[:whole]...))
			is(t, fmt.Sprintf("%q", changed), e != api.OK, true)
			// The line feed of the last record is what a torn log lacks.
			if e == api.ErrTorn {
				is(t, changed, i, len(log)-1)
			}
		}
	}
}

// A record that is left out is noticed at the next one, unless the seals before and after it are equal.
func TestP10_7RecordsLeftOut(t *testing.T) {
	lines := append(sampleLines(), "claim ann 2 3", "sign ann", "undo")
	log := slowLog(events(lines...))
	records := strings.SplitAfter(log, "\n")
	records = records[:len(records)-1]
	for i := range records[1:] {
		rest := strings.Join(append(slices.Clone(records[:i]), records[i+1:]...), "")
		got, e := recoverLog(rest)
		is(t, "the events", got.events, events(lines[:i]...))
		is(t, "the error", e, api.ErrCheck)
	}
	// The seal of this event is 0, as that before the first record.
	e := occurrence(1, "claim ann 7285128 x")
	is(t, "its seal", slowSeal(slowBody(e), 0), 0)
	log = logOf(t, []api.Event{e, occurrence(2, "undo")})
	got, err := recoverLog(log)
	is(t, "with it", len(ok(t, got, err).events), 2)
	got, err = recoverLog(log[strings.Index(log, "\n")+1:])
	is(t, "without it", ok(t, got, err).events, []api.Event{occurrence(2, "undo")})
}

// A log that is cut off at any byte is recovered to its last whole record.
func TestP10_7LogsCutOff(t *testing.T) {
	lines := append(sampleLines(), "claim ann 2 3", "sign ann", "undo")
	log := slowLog(events(lines...))
	for i := range len(log) + 1 {
		whole := strings.Count(log[:i], "\n")
		want := recovered{events(lines[:whole]...), strings.LastIndex(log[:i], "\n") + 1}
		got, e := recoverLog(log[:i])
		is(t, "what is left", got, want)
		err := api.ErrTorn
		if want.length == i {
			err = api.OK
		}
		is(t, "the error", e, err)
		s, e := load(log[:i])
		gives(t, "the session", s, e, loaded{want.events, log[:want.length]})
	}
}

// Undoing everything leaves nothing.
func TestP10_7UndoingEverything(t *testing.T) {
	random := rand.New(rand.NewSource(15))
	for range 300 {
		l, _ := randomEvents(random, 80)
		for range slowCounting(l) {
			l = append(l, occurrence(len(l)+1, "undo"))
		}
		got, e := replay(l)
		gives(t, "nothing", got, e, replayed{})
		is(t, "nothing more", union.Accepts(l, occurrence(len(l)+1, "undo")), api.ErrEmpty)
	}
}

// What is recorded is kept: a session, its log and its events lead to the same union.
func TestP9WhatIsRecordedIsKept(t *testing.T) {
	random := rand.New(rand.NewSource(16))
	for range 150 {
		l, _ := randomEvents(random, 80)
		s := union.New()
		for _, e := range l {
			_, line, _ := strings.Cut(slowBody(e), " ")
			answer, err := s.Do(line)
			gives(t, line, answer, err, fmt.Sprint("done ", e.Number))
		}
		is(t, "the events", s.Events(), l)
		log := logOf(t, l)
		is(t, "the log", s.Log(), log)
		got, e := recoverLog(log)
		gives(t, "recovered", got, e, recovered{l, len(log)})
		again, e := union.Load(log)
		is(t, "loaded", e, api.OK)
		for _, line := range []string{"board", "signed", "past", "card ann", "open ben", "differs cem"} {
			want, err := s.Do(line)
			answer, e := again.Do(line)
			is(t, line, answer, want)
			is(t, line, e, err)
		}
	}
}

// anyQuestion spoils some arguments of a question without regard to what they mean.
func anyQuestion(random *rand.Rand, q question) question {
	number := func() int {
		return pick(random, math.MinInt, math.MinInt+1, -1000000000, -999999999, -100, -99, -1, 0, 0, 1, 1, 2, 3, 9, 36, 37, 99, 100, 999, 1000, 1001, 999999999, 1000000000, math.MaxInt-1, math.MaxInt)
	}
	word := func() string {
		return pick(random, "", " ", "x", "ann", "ben", "links", "one", "-", "5", "5c", "4:1", "\xff", "\n", "#", strings.Repeat("a", 5000))
	}
	words := func() []string {
		var l []string
		for range random.Intn(4) {
			l = append(l, word())
		}
		return l
	}
	someEntry := func() api.Entry {
		return pick(random, api.Entry{Strokes: number(), Mark: word()}, entry("4"), entry("x"))
	}
	someMessage := func() union.Message {
		return union.Message{Device: word(), Number: number(), Player: word(), Hole: number(), Entry: someEntry()}
	}
	someEvent := func() api.Event {
		e := api.Event{Number: pick(random, number(), len(q.events)+1), Kind: pick(random, "club", "member", "holes", "mark", "claim", "sign", "ruling", "round", "undo", word()), Names: words(), Text: word()}
		for range random.Intn(3) {
			e.Values = append(e.Values, number())
		}
		return e
	}
	u := &q.union
	switch random.Intn(12) {
	case 0:
		u.Clubs, u.Signed = words(), words()
	case 1:
		u.Members = append(u.Members, union.Member{Name: word(), Club: word(), Handicap: number()})
	case 2:
		u.Holes = append(u.Holes, api.Hole{Par: number(), Index: number()})
	case 3:
		u.Marks = append(u.Marks, union.Mark{Player: word(), By: word(), Hole: number(), Entry: someEntry()})
	case 4:
		u.Past = append(u.Past, union.Kept{Name: word(), Holes: u.Holes, Cards: []api.Card{{Player: word(), Entries: []api.Entry{someEntry()}}}})
	case 5:
		q.player, q.signer = word(), word()
	case 6:
		q.message, q.received = someMessage(), someMessage()
	case 7:
		q.follower.Messages = append(q.follower.Messages, someMessage())
	case 8:
		q.other.Messages = append(q.other.Messages, someMessage())
	case 9:
		q.event, q.next, q.appended = someEvent(), someEvent(), someEvent()
	case 10:
		q.events = append(q.events, someEvent())
	case 11:
		i, k := random.Intn(len(q.log)+1), random.Intn(len(q.torn)+1)
		q.log, q.torn, q.line = q.log[:i]+word()+q.log[i:], q.torn[:k]+word()+q.torn[k:], pick(random, "card ", "mark ", "member ", "")+strings.Join(words(), " ")
	}
	return q
}

// randomQuestion returns a question that is mostly answered without errors.
func randomQuestion(random *rand.Rand) question {
	q := fresh()
	q.events, q.next = randomEvents(random, 25)
	got, _ := replay(q.events)
	q.union = got.union
	if random.Intn(2) == 0 {
		q.union = randomUnion(random)
	}
	q.player, q.signer = pick(random, somePlayers...), pick(random, somePlayers...)
	receive := func(l []union.Message) union.Follower {
		var f union.Follower
		for _, m := range l {
			f, _ = union.Receive(f, m)
		}
		return f
	}
	l := randomMessages(random, 3, 8, 20)
	q.follower, q.other = receive(l[5:]), receive(l[:15])
	q.message, q.received = pick(random, l...), pick(random, l...)
	q.event, q.appended = q.next, q.next
	q.log, q.torn = randomLog(random), slowLog(q.events)
	q.lines = someLines(random)
	q.line = randomLine(random, q.union)
	return q
}

// Whatever the arguments are, each function returns.
func TestP1AllArguments(t *testing.T) {
	random := rand.New(rand.NewSource(17))
	for range 3000 {
		q := randomQuestion(random)
		for range 1 + random.Intn(4) {
			q = anyQuestion(random, q)
		}
		answers(q)
	}
	answers(question{})
	const great = 100000
	long := strings.Repeat("a", great)
	many := api.Event{Number: 1, Kind: "mark", Names: make([]string, great), Values: make([]int, great), Text: long}
	q := question{
		union:  union.Union{Clubs: make([]string, great), Members: make([]union.Member, great), Holes: make([]api.Hole, great), Marks: make([]union.Mark, great), Signed: make([]string, great), Past: make([]union.Kept, great)},
		player: long, signer: long,
		message: union.Message{Device: long, Player: long}, received: union.Message{Device: long, Player: long},
		follower: union.Follower{Messages: make([]union.Message, great)}, other: union.Follower{Messages: make([]union.Message, great)},
		event: many, next: many, appended: many, events: []api.Event{many},
		log: strings.Repeat(long, 11), torn: strings.Repeat(long, 11), line: long,
	}
	answers(q)
	few := fresh()
	few.union.Holes = make([]api.Hole, great)
	few.union.Past[0].Cards = []api.Card{{Entries: make([]api.Entry, great)}}
	few.log, few.torn = strings.Repeat(long, 10), strings.Repeat("#\n", great)
	answers(few)
	few.union.Holes = nil
	few.log, few.torn = strings.Repeat("1", 6*great)+" club links#000000\n", "1 mark ann ben "+strings.Repeat("1", great)+" 4#000000\n"
	answers(few)
}

// Arguments remain as they were, and the same call has the same results.
func TestP1ArgumentsRemain(t *testing.T) {
	for seed := range int64(300) {
		again := func() question { return randomQuestion(rand.New(rand.NewSource(seed))) }
		q := again()
		before := answers(q)
		is(t, "the arguments", q, again())
		for i, a := range answers(q) {
			is(t, "the same results", a, before[i])
		}
	}
}

// region is memory that a list has, also behind its end.
type region struct {
	from, to uintptr
}

// regions returns the memory of all lists in a value.
func regions(v reflect.Value) []region {
	var l []region
	switch v.Kind() {
	case reflect.Slice:
		size := uintptr(v.Cap()) * v.Type().Elem().Size()
		if size > 0 {
			l = append(l, region{v.Pointer(), v.Pointer() + size})
		}
		for i := range v.Len() {
			l = append(l, regions(v.Index(i))...)
		}
	case reflect.Struct:
		for i := range v.NumField() {
			l = append(l, regions(v.Field(i))...)
		}
	case reflect.Interface:
		return regions(v.Elem())
	}
	return l
}

// Results share no memory with arguments, or with each other.
func TestP1ResultsShareNothing(t *testing.T) {
	random := rand.New(rand.NewSource(18))
	for i := range 300 {
		q := fresh()
		if i > 0 {
			q = randomQuestion(random)
		}
		arguments := regions(reflect.ValueOf(q))
		for _, a := range answers(q) {
			results := regions(reflect.ValueOf(a.value))
			for j, r := range results {
				for _, other := range append(slices.Clone(arguments), results[j+1:]...) {
					if r.from < other.to && other.from < r.to {
						t.Errorf("%s has a result that shares memory", a.name)
					}
				}
			}
		}
	}
}
