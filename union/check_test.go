package union_test

import (
	"fmt"
	"slices"
	"strings"
	"testing"

	"niblick/api"
	"niblick/union"
)

// unionFlaws spoil a union, in the order of the errors.
func unionFlaws() []flaw {
	of := flawOf("union")
	change := func(name string, want api.Errno, spoil func(u *union.Union)) flaw {
		return of(name, func(q *question) { spoil(&q.union) }, want)
	}
	return []flaw{
		change("many clubs", api.ErrMany, func(u *union.Union) { u.Clubs = make([]string, 257) }),
		change("many members", api.ErrMany, func(u *union.Union) { u.Members = make([]union.Member, 201) }),
		change("many marks", api.ErrMany, func(u *union.Union) { u.Marks = make([]union.Mark, 1001) }),
		change("many signed", api.ErrMany, func(u *union.Union) { u.Signed = make([]string, 201) }),
		change("many rounds", api.ErrMany, func(u *union.Union) { u.Past = make([]union.Kept, 257) }),
		change("a club without a name", api.ErrName, func(u *union.Union) { u.Clubs[1] = "" }),
		change("a club twice", api.ErrTwice, func(u *union.Union) { u.Clubs[2] = "links" }),
		change("a member without a name", api.ErrName, func(u *union.Union) { u.Members[3].Name = "1" }),
		change("a member twice", api.ErrTwice, func(u *union.Union) { u.Members[3].Name = "ann" }),
		change("a member of no club", api.ErrUnknown, func(u *union.Union) { u.Members[3].Club = "lake" }),
		change("low handicap strokes", api.ErrRange, func(u *union.Union) { u.Members[3].Handicap = -100 }),
		change("high handicap strokes", api.ErrRange, func(u *union.Union) { u.Members[3].Handicap = 100 }),
		change("a par", api.ErrRange, func(u *union.Union) { u.Holes[0].Par = 7 }),
		change("an index twice", api.ErrTwice, func(u *union.Union) { u.Holes[1].Index = 2 }),
		change("an unknown player", api.ErrUnknown, func(u *union.Union) { u.Marks[2].Player = "eva" }),
		change("an unknown marker", api.ErrUnknown, func(u *union.Union) { u.Marks[2].By = "eva" }),
		change("the hole 0", api.ErrUnknown, func(u *union.Union) { u.Marks[2].Hole = 0 }),
		change("the hole 3", api.ErrUnknown, func(u *union.Union) { u.Marks[2].Hole = 3 }),
		change("an unknown mark", api.ErrKind, func(u *union.Union) { u.Marks[2].Entry.Mark = "y" }),
		change("no strokes", api.ErrRange, func(u *union.Union) { u.Marks[2].Entry.Strokes = 0 }),
		change("many strokes", api.ErrRange, func(u *union.Union) { u.Marks[2].Entry.Strokes = 100 }),
		change("a marker's mark twice", api.ErrTwice, func(u *union.Union) { u.Marks[2].Hole = 1 }),
		change("a player's mark twice", api.ErrTwice, func(u *union.Union) { u.Marks[3].Hole = 1 }),
		change("an unknown signer", api.ErrUnknown, func(u *union.Union) { u.Signed[0] = "eva" }),
		change("an open hole of a signer", api.ErrNone, func(u *union.Union) { u.Signed[0] = "dan" }),
		change("another claim of a signer", api.ErrConflict, func(u *union.Union) { u.Marks[5].Entry = entry("2") }),
		change("a signer twice", api.ErrTwice, func(u *union.Union) { u.Signed[1] = "ben" }),
		change("a round without a name", api.ErrName, func(u *union.Union) { u.Past[1].Name = "_" }),
		change("a round twice", api.ErrTwice, func(u *union.Union) { u.Past[1].Name = "one" }),
		change("a round without holes", api.ErrEmpty, func(u *union.Union) { u.Past[1].Holes = nil }),
		change("a wrong hole of a round", api.ErrRange, func(u *union.Union) { u.Past[1].Holes[1].Par = 2 }),
		change("many cards", api.ErrMany, func(u *union.Union) { u.Past[1].Cards = make([]api.Card, 201) }),
		change("a card without a player", api.ErrName, func(u *union.Union) { u.Past[1].Cards[0].Player = "" }),
		change("a card of another length", api.ErrShape, func(u *union.Union) { u.Past[1].Cards[1].Entries = entries("4") }),
	}
}

func TestP10_1CheckUnion(t *testing.T) {
	q := fresh()
	is(t, "a union", union.CheckUnion(q.union), api.OK)
	is(t, "a union of nothing", union.CheckUnion(union.Union{}), api.OK)
	is(t, "the union of the chapter", union.CheckUnion(sample()), api.OK)
	alone := union.Union{Clubs: []string{"links"}, Members: []union.Member{{Name: "ann", Club: "links"}}, Signed: []string{"ann"}}
	is(t, "signed without holes", union.CheckUnion(alone), api.ErrEmpty)
	for _, f := range unionFlaws() {
		q := fresh()
		f.spoil(&q)
		is(t, f.name, union.CheckUnion(q.union), f.want)
	}
}

// fullUnion returns a union at all its limits.
func fullUnion() union.Union {
	var u union.Union
	for i := range 256 {
		u.Clubs = append(u.Clubs, fmt.Sprint("c", i))
	}
	for i := range 200 {
		u.Members = append(u.Members, union.Member{Name: fmt.Sprint("m", i), Club: u.Clubs[i], Handicap: i - 99})
	}
	u.Members[199].Handicap = 99
	for i := range 2 {
		u.Holes = append(u.Holes, api.Hole{Par: 3 + 3*i, Index: i + 1})
	}
	for i, m := range u.Members {
		for hole := 1; hole <= 2; hole++ {
			by := u.Members[(i+1)%200].Name
			e := entry(fmt.Sprint(1 + i%99))
			u.Marks = append(u.Marks,
				union.Mark{Player: m.Name, By: m.Name, Hole: hole, Entry: e},
				union.Mark{Player: m.Name, By: by, Hole: hole, Entry: e})
		}
		u.Signed = append(u.Signed, m.Name)
	}
	for i := range 256 {
		k := union.Kept{Name: fmt.Sprint("r", i), Holes: holes("3:1")}
		for n := range 200 {
			k.Cards = append(k.Cards, api.Card{Player: fmt.Sprint("m", n), Entries: entries("x")})
		}
		u.Past = append(u.Past, k)
	}
	return u
}

func TestP10_1LimitsOfUnions(t *testing.T) {
	is(t, "at the limits", union.CheckUnion(fullUnion()), api.OK)
	for i, grow := range []func(u *union.Union){
		func(u *union.Union) { u.Clubs = append(u.Clubs, "more") },
		func(u *union.Union) { u.Members = append(u.Members, union.Member{Name: "more", Club: "c0"}) },
		func(u *union.Union) { u.Signed = append(u.Signed, "m0") },
		func(u *union.Union) { u.Past = append(u.Past, union.Kept{Name: "more", Holes: holes("3:1")}) },
		func(u *union.Union) { u.Past[0].Cards = append(u.Past[0].Cards, u.Past[0].Cards[0]) },
	} {
		u := fullUnion()
		grow(&u)
		is(t, fmt.Sprint("beyond the limit ", i), union.CheckUnion(u), api.ErrMany)
	}
	// 1000 marks need more than two holes for 200 members.
	u := fullUnion()
	u.Holes = holes("3:1 4:2 5:3")
	u.Signed = nil
	for i := range 200 {
		u.Marks = append(u.Marks, union.Mark{Player: fmt.Sprint("m", i), By: "m7", Hole: 3, Entry: entry("-")})
	}
	is(t, "as many marks as there may be", union.CheckUnion(u), api.OK)
	u.Marks = append(u.Marks, union.Mark{Player: "m0", By: "m0", Hole: 3, Entry: entry("-")})
	is(t, "a mark more", union.CheckUnion(u), api.ErrMany)
}

// messageFlaws spoil a message, in the order of the errors.
func messageFlaws(of string, at func(q *question) *union.Message) []flaw {
	change := func(name string, want api.Errno, spoil func(m *union.Message)) flaw {
		return flawOf(of)(name, func(q *question) { spoil(at(q)) }, want)
	}
	return []flaw{
		change("no device", api.ErrName, func(m *union.Message) { m.Device = "" }),
		change("a long device", api.ErrName, func(m *union.Message) { m.Device = strings.Repeat("a", 25) }),
		change("the number 0", api.ErrRange, func(m *union.Message) { m.Number = 0 }),
		change("the number 1001", api.ErrRange, func(m *union.Message) { m.Number = 1001 }),
		change("no player", api.ErrName, func(m *union.Message) { m.Player = "1" }),
		change("the hole 0", api.ErrRange, func(m *union.Message) { m.Hole = 0 }),
		change("the hole 37", api.ErrRange, func(m *union.Message) { m.Hole = 37 }),
		change("an unknown mark", api.ErrKind, func(m *union.Message) { m.Entry.Mark = "C" }),
		change("no strokes", api.ErrRange, func(m *union.Message) { m.Entry = api.Entry{} }),
		change("many strokes", api.ErrRange, func(m *union.Message) { m.Entry = entry("100") }),
	}
}

// followerFlaws spoil a follower, in the order of the errors.
func followerFlaws(of string, at func(q *question) *union.Follower) []flaw {
	flaws := []flaw{flawOf(of)("many messages", func(q *question) { at(q).Messages = make([]union.Message, 1001) }, api.ErrMany)}
	flaws = append(flaws, messageFlaws(of, func(q *question) *union.Message { return &at(q).Messages[1] })...)
	return append(flaws,
		flawOf(of)("the same message twice", func(q *question) { at(q).Messages[2] = at(q).Messages[1] }, api.ErrOrder),
		flawOf(of)("a device too late", func(q *question) { at(q).Messages[2].Device = "a" }, api.ErrOrder))
}

// eventFlaws spoil an event with two names, a value and a text, in the order of the errors.
func eventFlaws(of string, at func(q *question) *api.Event) []flaw {
	change := func(name string, want api.Errno, spoil func(e *api.Event)) flaw {
		return flawOf(of)(name, func(q *question) { spoil(at(q)) }, want)
	}
	return []flaw{
		change("the number 0", api.ErrRange, func(e *api.Event) { e.Number = 0 }),
		change("the number 1001", api.ErrRange, func(e *api.Event) { e.Number = 1001 }),
		change("an unknown kind", api.ErrKind, func(e *api.Event) { e.Kind = "Mark" }),
		change("a name too many", api.ErrShape, func(e *api.Event) { e.Names = []string{"ann", "1", ""} }),
		change("a value too many", api.ErrShape, func(e *api.Event) { e.Values = []int{1, -1} }),
		change("no value", api.ErrShape, func(e *api.Event) { e.Values = nil }),
		change("a name that is none", api.ErrName, func(e *api.Event) { e.Names[len(e.Names)-1] = "" }),
		change("a value below 0", api.ErrRange, func(e *api.Event) { e.Values = []int{-1} }),
		change("a great value", api.ErrRange, func(e *api.Event) { e.Values = []int{1000000000} }),
		change("a line feed", api.ErrForm, func(e *api.Event) { e.Text = "\n" + strings.Repeat(" ", 4096) }),
		change("a #", api.ErrForm, func(e *api.Event) { e.Text = strings.Repeat(" ", 4096) + "#" }),
		change("a long text", api.ErrLong, func(e *api.Event) { e.Text = strings.Repeat(" ", 4097) }),
	}
}

func TestP10ErrorsInOrder(t *testing.T) {
	expect(t, "without errors", fresh(), func(answer) api.Errno { return api.OK })
	flaws := unionFlaws()
	flaws = append(flaws, flawOf("player")("nobody", func(q *question) { q.player = "eva" }, api.ErrUnknown))
	flaws = append(flaws, flawOf("signer")("nobody", func(q *question) { q.signer = "" }, api.ErrUnknown))
	flaws = append(flaws, flawOf("signer")("an open hole", func(q *question) { q.signer = "dan" }, api.ErrNone))
	flaws = append(flaws, messageFlaws("message", func(q *question) *union.Message { return &q.message })...)
	flaws = append(flaws, followerFlaws("follower", func(q *question) *union.Follower { return &q.follower })...)
	flaws = append(flaws, messageFlaws("received", func(q *question) *union.Message { return &q.received })...)
	flaws = append(flaws, followerFlaws("other", func(q *question) *union.Follower { return &q.other })...)
	flaws = append(flaws,
		flawOf("received")("another one", func(q *question) { q.received = message("b 1 ann 2 4") }, api.ErrConflict),
		flawOf("other")("another one", func(q *question) { q.other = follower("b 1 ann 2 4", "b 2 ann 2 4", "c 1 ben 1 -") }, api.ErrConflict))
	inOrder(t, flaws...)

	flaws = eventFlaws("event", func(q *question) *api.Event { return &q.event })
	flaws = append(flaws,
		flawOf("events")("many", func(q *question) { q.events = make([]api.Event, 1001) }, api.ErrMany),
		flawOf("log")("a long text", func(q *question) { q.log = strings.Repeat("\n", 1000001) }, api.ErrLong),
		flawOf("torn")("a long text", func(q *question) { q.torn = strings.Repeat("\n", 1000001) }, api.ErrLong))
	for _, f := range flaws {
		q := fresh()
		f.spoil(&q)
		expect(t, f.name, q, func(a answer) api.Errno {
			if slices.Contains(strings.Fields(a.uses), f.of) {
				return f.want
			}
			return api.OK
		})
	}
}

// Errors of events are tried in pairs, too, and in front of what makes an event not accepted.
func TestP10_4CheckEvent(t *testing.T) {
	at := func(q *question) *api.Event { return &q.event }
	flaws := eventFlaws("event", at)
	for i, f := range flaws {
		for _, later := range flaws[i:] {
			q := fresh()
			later.spoil(&q)
			f.spoil(&q)
			is(t, f.name+" and "+later.name, union.CheckEvent(q.event), f.want)
			is(t, "Accepts: "+f.name+" and "+later.name, union.Accepts(q.events, q.event), f.want)
			_, e := union.Append("", q.event)
			is(t, "Append: "+f.name+" and "+later.name, e, f.want)
		}
	}
}

func TestP10_4FormsOfEvents(t *testing.T) {
	for _, kind := range []string{"club", "member", "holes", "mark", "claim", "sign", "ruling", "round", "undo", "", "card", "Club", "club "} {
		for names := range 4 {
			for values := range 3 {
				for _, text := range []string{"", " ", "x", "\n", "#", strings.Repeat("x", 4096), strings.Repeat("x", 4097)} {
					e := api.Event{Number: 1, Kind: kind, Names: slices.Repeat([]string{"ann"}, names), Values: slices.Repeat([]int{0}, values), Text: text}
					is(t, fmt.Sprint(kind, names, values, len(text)), union.CheckEvent(e), slowCheckEvent(e))
				}
			}
		}
	}
}
