package union_test

import (
	"fmt"
	"math/rand"
	"strings"
	"testing"

	"niblick/api"
	"niblick/union"
)

// typed returns a session behind lines that are all accepted.
func typed(t *testing.T, lines ...string) *union.Session {
	t.Helper()
	s := union.New()
	for i, line := range lines {
		answer, e := s.Do(line)
		gives(t, line, answer, e, fmt.Sprint("done ", i+1))
	}
	return s
}

// says checks the answer to a line.
func says(t *testing.T, s *union.Session, line, want string) {
	t.Helper()
	answer, e := s.Do(line)
	gives(t, line, answer, e, want)
}

// denied checks the error of a line, which changes nothing.
func denied(t *testing.T, s *union.Session, line string, want api.Errno) {
	t.Helper()
	l, log := s.Events(), s.Log()
	answer, e := s.Do(line)
	fails(t, line, answer, e, want)
	is(t, line, s.Events(), l)
	is(t, line, s.Log(), log)
}

func TestP10_6Questions(t *testing.T) {
	s := union.New()
	for _, line := range []string{"board", "signed", "past"} {
		says(t, s, line, "none")
	}
	s = typed(t, sampleLines()...)
	says(t, s, "card ann", "5 3")
	says(t, s, "card ben", "4 -")
	says(t, s, "open ann", "2")
	says(t, s, "open ben", "1 2")
	says(t, s, "differs ann", "none")
	says(t, s, "board", "ben:-1:1 ann:1:2")
	says(t, s, "signed", "none")
	says(t, s, "mark ann ben 1 6c", "done 9")
	says(t, s, "claim ann 2 4", "done 10")
	says(t, s, "differs ann", "1 2")
	says(t, s, "open ann", "none")
	says(t, s, "ruling ann 1 5", "done 11")
	says(t, s, "ruling ann 2 x", "done 12")
	says(t, s, "ruling ben 1 x", "done 13")
	says(t, s, "ruling ben 2 9c", "done 14")
	says(t, s, "card ann", "5 x")
	says(t, s, "card ben", "x 9c")
	says(t, s, "board", "ann:3:2 ben:7:2")
	says(t, s, "sign ben", "done 15")
	says(t, s, "signed", "ben")
	says(t, s, "sign ann", "done 16")
	says(t, s, "signed", "ben ann")
	says(t, s, "round one", "done 17")
	says(t, s, "signed", "none")
	says(t, s, "past", "one:2")
	says(t, s, "ruling ann 1 4", "done 18")
	says(t, s, "ruling ann 2 4", "done 19")
	says(t, s, "sign ann", "done 20")
	says(t, s, "round two", "done 21")
	says(t, s, "past", "one:2 two:1")
	says(t, s, "undo", "done 22")
	says(t, s, "past", "one:2")
	says(t, s, "signed", "ann")
	is(t, "all events", len(s.Events()), 22)
}

func TestP10_6LongAnswers(t *testing.T) {
	lines := markLines(3)[:17]
	s := typed(t, lines...)
	says(t, s, "card m3", "9*- | 9*- | 9*- | 9*-")
	says(t, s, "ruling m3 11 5", "done 18")
	says(t, s, "card m3", "9*- | - 5 7*- | 9*- | 9*-")
	says(t, s, "open m3", "1 2 3 4 5 6 7 8 9 10 12 13 14 15 16 17 18 19 20 21 22 23 24 25 26 27 28 29 30 31 32 33 34 35 36")
}

func TestP10_6Errors(t *testing.T) {
	empty := union.New()
	denied(t, empty, "card ann", api.ErrUnknown)
	denied(t, empty, "undo", api.ErrEmpty)
	denied(t, typed(t, "club links", "member ann links 0"), "card ann", api.ErrEmpty)
	s := typed(t, append(sampleLines(), "claim ann 2 3", "sign ann")...)
	for line, want := range map[string]api.Errno{
		"": api.ErrSyntax, strings.Repeat("x", 4096): api.ErrKind, strings.Repeat("x", 4097): api.ErrLong, strings.Repeat(" ", 4097): api.ErrLong,
		" ": api.ErrKind, " board": api.ErrKind, "Board": api.ErrKind, "boards": api.ErrKind, "done": api.ErrKind, "done 1": api.ErrKind, "board\n": api.ErrKind, "\x00": api.ErrKind, "1 club x": api.ErrKind,
		"board ": api.ErrSyntax, "board x": api.ErrSyntax, "signed ": api.ErrSyntax, "signed ann": api.ErrSyntax, "past ": api.ErrSyntax, "past one": api.ErrSyntax,
		"card": api.ErrSyntax, "card ": api.ErrSyntax, "card  ": api.ErrSyntax, "card ann ": api.ErrSyntax, "card ann ben": api.ErrSyntax, "card  ann": api.ErrSyntax, "card eva": api.ErrUnknown, "card #": api.ErrUnknown, "card \n": api.ErrUnknown,
		"open": api.ErrSyntax, "open ": api.ErrSyntax, "open ann ben": api.ErrSyntax, "open eva": api.ErrUnknown,
		"differs": api.ErrSyntax, "differs ": api.ErrSyntax, "differs ann ben": api.ErrSyntax, "differs eva": api.ErrUnknown,
		"club": api.ErrSyntax, "club ": api.ErrSyntax, "club  x": api.ErrSyntax, "club x ": api.ErrSyntax, "club x y": api.ErrSyntax, "club 1": api.ErrName, "club x#": api.ErrName, "club x\n": api.ErrName, "club links": api.ErrTwice,
		"member": api.ErrSyntax, "member eva": api.ErrSyntax, "member eva links": api.ErrSyntax, "member  links 0": api.ErrSyntax, "member eva  0": api.ErrSyntax, "member eva links ": api.ErrSyntax, "member eva links 0 ": api.ErrSyntax, "member eva links 0#": api.ErrForm, "member 1 links 0#": api.ErrName, "member eva moor \n": api.ErrForm, "member eva moor x": api.ErrUnknown,
		"holes": api.ErrSyntax, "holes ": api.ErrState, "holes #": api.ErrForm,
		"mark ben ann 1": api.ErrSyntax, "mark ben ann x 4": api.ErrSyntax, "mark ben ann -1 4": api.ErrSyntax, "mark ben ann 01 4": api.ErrSyntax, "mark ben ann 1000000000 4": api.ErrSyntax, "mark ben ann  4": api.ErrSyntax, "mark ben  1 4": api.ErrSyntax, "mark ben 1 4": api.ErrSyntax,
		"mark ben 1 1 4": api.ErrName, "mark ben eva 1 4": api.ErrUnknown, "mark ben ann 999999999 4": api.ErrUnknown, "mark ben ann 1 4 5": api.ErrSyntax, "mark ben ann 1 ": api.ErrSyntax, "mark ben ann 1 \n": api.ErrForm, "mark ben ann 1 0": api.ErrRange, "mark ann ann 1 4": api.ErrTwice,
		"claim": api.ErrSyntax, "claim ben": api.ErrSyntax, "claim ben 1": api.ErrSyntax, "claim ann 1 4": api.ErrOver,
		"ruling ben 1": api.ErrSyntax, "ruling ben 3 4": api.ErrUnknown,
		"sign": api.ErrSyntax, "sign ann ": api.ErrSyntax, "sign ann": api.ErrOver, "sign ben": api.ErrNone,
		"round": api.ErrSyntax, "round ": api.ErrSyntax, "round one two": api.ErrSyntax, "round one": api.ErrState,
		"undo ": api.ErrSyntax, "undo 1": api.ErrSyntax,
	} {
		denied(t, s, line, want)
	}
	says(t, s, "board", "ben:-1:1 ann:1:2")
}

func TestP10_6Nil(t *testing.T) {
	var s *union.Session
	for _, line := range []string{"", "board", "club links", "walls", strings.Repeat("x", 4097)} {
		answer, e := s.Do(line)
		fails(t, line, answer, e, api.ErrState)
	}
	is(t, "no events", s.Events(), nil)
	is(t, "no log", s.Log(), "")
	is(t, "no events yet", union.New().Events(), nil)
	is(t, "no log yet", union.New().Log(), "")
	var zero union.Session
	says(t, &zero, "club links", "done 1")
	is(t, "its events", zero.Events(), events("club links"))
}

// Each session goes its own way, also a copy of one.
func TestP10_6Sessions(t *testing.T) {
	a, b := union.New(), union.New()
	says(t, a, "club links", "done 1")
	says(t, b, "club moor", "done 1")
	says(t, a, "club sea", "done 2")
	c := *a
	says(t, a, "club bay", "done 3")
	says(t, &c, "undo", "done 3")
	says(t, &c, "club hill", "done 4")
	is(t, "one", a.Events(), events("club links", "club sea", "club bay"))
	is(t, "another one", b.Events(), events("club moor"))
	is(t, "a copy", c.Events(), events("club links", "club sea", "undo", "club hill"))
	// What Events returns is no part of the session.
	a.Events()[0].Names[0] = "x"
	l := append(sampleLines()[:4:4], "claim ann 1 4")
	a = typed(t, l...)
	a.Events()[4].Values[0] = 2
	a.Events()[4].Kind = "x"
	is(t, "as before", a.Events(), events(l...))
	says(t, a, "open ann", "1 2")
}

func TestP10_6Load(t *testing.T) {
	lines := append(sampleLines(), "claim ann 2 3", "sign ann", "undo", "undo")
	s := typed(t, lines...)
	l, log := events(lines...), slowLog(events(lines...))
	is(t, "the events", s.Events(), l)
	is(t, "the log", s.Log(), log)
	got, e := load(log)
	gives(t, "a log", got, e, loaded{l, log})
	got, e = load("")
	gives(t, "an empty log", got, e, loaded{})
	got, e = load(log + "13 und")
	gives(t, "a torn end", got, e, loaded{l, log})
	again, e := union.Load(log + "13 undo#123456")
	is(t, "a torn end", e, api.OK)
	says(t, again, "undo", "done 13")
	says(t, again, "card ben", "- -")
	says(t, s, "undo", "done 13")
	is(t, "the same log", again.Log(), s.Log())
	for rest, want := range map[string]api.Errno{
		"x\n": api.ErrSyntax, "13 undo#123456\n": api.ErrCheck, "13 undo#123456\nx": api.ErrCheck, strings.Repeat(" ", 1000001-len(log)): api.ErrLong,
	} {
		s, e := union.Load(log + rest)
		fails(t, rest, s, e, want)
	}
	for _, x := range []struct {
		lines []string
		want  api.Errno
	}{
		{[]string{"undo"}, api.ErrEmpty},
		{[]string{"club links", "club links"}, api.ErrTwice},
		{[]string{"club links", "member ann links x"}, api.ErrSyntax},
		{[]string{"club links", "holes 7:1"}, api.ErrRange},
	} {
		s, e := union.Load(slowLog(events(x.lines...)))
		fails(t, fmt.Sprint(x.lines), s, e, x.want)
		s, e = union.Load(slowLog(events(x.lines...)) + "torn")
		fails(t, fmt.Sprint(x.lines), s, e, x.want)
	}
	s2, e := union.Load(slowLog(l[1:]))
	fails(t, "without the first event", s2, e, api.ErrOrder)
}

func TestP10_6Limits(t *testing.T) {
	lines := undone(1000)
	s := typed(t, lines...)
	denied(t, s, "undo", api.ErrMany)
	denied(t, s, "club", api.ErrSyntax)
	denied(t, s, "club 1", api.ErrMany)
	denied(t, s, "club links", api.ErrMany)
	denied(t, s, "holes #", api.ErrMany)
	denied(t, s, "mark a b x 4", api.ErrSyntax)
	says(t, s, "board", "none")
	is(t, "the log", s.Log(), slowLog(events(lines...)))
	again, e := union.Load(s.Log())
	is(t, "as many events as there may be", e, api.OK)
	denied(t, again, "undo", api.ErrMany)
	// A log with more events than there may be is recovered, but with an error.
	log := s.Log()
	s, e = union.Load(log + sealed("1000 undo", mustSeal(log, 1000)))
	fails(t, "an event more", s, e, api.ErrMany)
	s, e = union.Load(log + "1000 undo")
	is(t, "a torn one more", len(s.Events()), 1000)
	is(t, "a torn one more", e, api.OK)
	// A line of the greatest length with which there are names, and a text.
	s = typed(t, "club links")
	denied(t, s, "member ann links "+strings.Repeat("1", 4096-len("member ann links ")), api.ErrSyntax)
	denied(t, s, "member ann links "+strings.Repeat("1", 4097-len("member ann links ")), api.ErrLong)
}

func TestP10_6ByDefinition(t *testing.T) {
	random := rand.New(rand.NewSource(6))
	seen := map[string]int{}
	for range 250 {
		s, slow := union.New(), &slowSession{}
		var lines []string
		if random.Intn(4) > 0 {
			lines = someLines(random)
		}
		tries := random.Intn(100)
		for i := range len(lines) + tries {
			line := ""
			if i < len(lines) {
				line = lines[i]
			} else {
				line = randomLine(random, slowUnion(slow.events))
			}
			want, err := slow.do(line)
			got, e := s.Do(line)
			if got != want || e != err {
				t.Fatalf("%q behind %v: got %q and %d, want %q and %d", line, slow.events, got, e, want, err)
			}
			word, _, _ := strings.Cut(line, " ")
			seen[fmt.Sprint(word, err)]++
		}
		is(t, "the events", s.Events(), slow.events)
		is(t, "the log", s.Log(), slowLog(slow.events))
		got, e := load(s.Log())
		gives(t, "loaded", got, e, loaded{slow.events, s.Log()})
	}
	is(t, fmt.Sprint("often different ", seen), len(seen) > 65, true)
}
