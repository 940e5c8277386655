package union

import (
	"slices"
	"strconv"
	"strings"

	"niblick/api"
	"niblick/card"
)

// Session is a console: events that were accepted, and questions about the union after them.
type Session struct {
	history
}

// New returns a session without events.
func New() *Session {
	return new(Session)
}

// Load returns the session with a log, which may have a torn end.
func Load(log string) (*Session, api.Errno) {
	l, _, e := Recover(log)
	if e != api.OK && e != api.ErrTorn {
		return nil, e
	}
	h, _, e := replay(l)
	if e != api.OK {
		return nil, e
	}
	return &Session{h}, api.OK
}

// Do does a line, and returns its answer.
func (s *Session) Do(line string) (string, api.Errno) {
	switch {
	case s == nil:
		return "", api.ErrState
	case len(line) > api.MaxText:
		return "", api.ErrLong
	case line == "":
		return "", api.ErrSyntax
	}
	word, _, _ := strings.Cut(line, " ")
	if _, isEvent := kinds()[word]; isEvent {
		return s.record(line)
	}
	if q, isQuestion := questions()[word]; isQuestion {
		return q.answer(s.union(), strings.Split(line, " "))
	}
	return "", api.ErrKind
}

// record adds the event of a line.
func (s *Session) record(line string) (string, api.Errno) {
	e, isLine := readLine(line)
	if err := firstError(unless(isLine, api.ErrSyntax), unless(len(s.events) < api.MaxEvents, api.ErrMany)); err != api.OK {
		return "", err
	}
	e.Number = len(s.events) + 1
	h, err := s.next(e)
	if err != api.OK {
		return "", err
	}
	s.history = h
	return answer("done", strconv.Itoa(e.Number)), api.OK
}

// Events returns the events.
func (s *Session) Events() []api.Event {
	if s == nil {
		return nil
	}
	return eachOf(s.events, func(e api.Event) api.Event {
		e.Names, e.Values = slices.Clone(e.Names), slices.Clone(e.Values)
		return e
	})
}

// Log returns the log of the events.
func (s *Session) Log() string {
	if s == nil {
		return ""
	}
	var log strings.Builder
	seal := 0
	for _, e := range s.events {
		var text string
		text, seal = recordOf(e, seal)
		log.WriteString(text)
	}
	return log.String()
}

// question says how many words a question has, and how it is asked.
type question struct {
	words int
	ask   func(u Union, words []string) (string, api.Errno)
}

func questions() map[string]question {
	return map[string]question{
		"card":    {2, askCard},
		"open":    {2, asking(Open)},
		"differs": {2, asking(Differs)},
		"board":   {1, askBoard},
		"signed":  {1, askSigned},
		"past":    {1, askPast},
	}
}

// answer returns the answer to a question with these words.
func (q question) answer(u Union, words []string) (string, api.Errno) {
	if len(words) != q.words || slices.Contains(words, "") {
		return "", api.ErrSyntax
	}
	return q.ask(u, words)
}

// answer joins the elements of an answer.
func answer(elements ...string) string {
	if len(elements) == 0 {
		return "none"
	}
	return strings.Join(elements, " ")
}

func askCard(u Union, words []string) (string, api.Errno) {
	c, e := Card(u, words[1])
	if e != api.OK {
		return "", e
	}
	return card.Print(c.Entries)
}

// asking asks for holes of a player.
func asking(holes func(u Union, player string) ([]int, api.Errno)) func(u Union, words []string) (string, api.Errno) {
	return func(u Union, words []string) (string, api.Errno) {
		l, e := holes(u, words[1])
		if e != api.OK {
			return "", e
		}
		return answer(eachOf(l, strconv.Itoa)...), api.OK
	}
}

func askBoard(u Union, _ []string) (string, api.Errno) {
	l, e := Board(u)
	if e != api.OK {
		return "", e
	}
	return answer(eachOf(l, func(s Standing) string {
		return s.Player + ":" + strconv.Itoa(s.Par) + ":" + strconv.Itoa(s.Through)
	})...), api.OK
}

func askSigned(u Union, _ []string) (string, api.Errno) {
	return answer(u.Signed...), api.OK
}

func askPast(u Union, _ []string) (string, api.Errno) {
	return answer(eachOf(u.Past, func(k Kept) string {
		return k.Name + ":" + strconv.Itoa(len(k.Cards))
	})...), api.OK
}
