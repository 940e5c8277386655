package union_test

import (
	"fmt"
	"math/rand"
	"regexp"
	"slices"
	"sort"
	"strconv"
	"strings"

	"niblick/api"
	"niblick/union"
)

// The functions of this file follow the definitions of the chapter word by word.

var (
	slowName    = regexp.MustCompile(`^[A-Za-z][A-Za-z0-9_]{0,23}$`)
	slowInteger = regexp.MustCompile(`^(0|-?[1-9][0-9]{0,8})$`)
	slowWord    = regexp.MustCompile(`^((0|[1-9][0-9]{0,8})c?|x|-)$`)
	slowHoles   = regexp.MustCompile(`^(0|[1-9][0-9]{0,8}):(0|[1-9][0-9]{0,8})( (0|[1-9][0-9]{0,8}):(0|[1-9][0-9]{0,8}))*$`)
)

// slowMark returns the entry of the marker's mark of a hole, or of the player's mark.
func slowMark(u union.Union, player string, hole int, own bool) (api.Entry, bool) {
	for _, m := range u.Marks {
		if m.Player == player && m.Hole == hole && (m.By == m.Player) == own {
			return m.Entry, true
		}
	}
	return api.Entry{}, false
}

func slowCard(u union.Union, player string) api.Card {
	c := api.Card{Player: player}
	for hole := 1; hole <= len(u.Holes); hole++ {
		if e, has := slowMark(u, player, hole, false); has {
			c.Entries = append(c.Entries, e)
		} else {
			c.Entries = append(c.Entries, entry("-"))
		}
	}
	return c
}

func slowOpen(u union.Union, player string) []int {
	var l []int
	for hole := 1; hole <= len(u.Holes); hole++ {
		_, a := slowMark(u, player, hole, false)
		_, b := slowMark(u, player, hole, true)
		if !a || !b {
			l = append(l, hole)
		}
	}
	return l
}

func slowDiffers(u union.Union, player string) []int {
	var l []int
	for hole := 1; hole <= len(u.Holes); hole++ {
		x, a := slowMark(u, player, hole, false)
		y, b := slowMark(u, player, hole, true)
		if a && b && (x.Strokes != y.Strokes || x.Mark != y.Mark) {
			l = append(l, hole)
		}
	}
	return l
}

func slowSignable(u union.Union, player string) api.Errno {
	switch {
	case len(u.Holes) == 0:
		return api.ErrEmpty
	case len(slowOpen(u, player)) > 0:
		return api.ErrNone
	case len(slowDiffers(u, player)) > 0:
		return api.ErrConflict
	}
	return api.OK
}

// slowGiven returns the strokes given on a hole.
func slowGiven(u union.Union, hole, handicap int) int {
	n, q := len(u.Holes), -200
	for n*(q+1) <= handicap {
		q++
	}
	if u.Holes[hole-1].Index <= handicap-n*q {
		return q + 1
	}
	return q
}

func slowBoard(u union.Union) []union.Standing {
	var l []union.Standing
	for _, m := range u.Members {
		s := union.Standing{Player: m.Name}
		for i, e := range slowCard(u, m.Name).Entries {
			if e.Mark == "-" {
				continue
			}
			s.Through++
			if e.Mark == "x" {
				s.Par += 2
			} else {
				s.Par += e.Strokes - slowGiven(u, i+1, m.Handicap) - u.Holes[i].Par
			}
		}
		if s.Through > 0 {
			l = append(l, s)
		}
	}
	sort.SliceStable(l, func(i, k int) bool {
		return l[i].Par < l[k].Par || l[i].Par == l[k].Par && l[i].Through > l[k].Through
	})
	return l
}

// slowHas reports whether a follower has a message.
func slowHas(f union.Follower, device string, n int) bool {
	for _, m := range f.Messages {
		if m.Device == device && m.Number == n {
			return true
		}
	}
	return false
}

func slowShown(f union.Follower) []union.Message {
	var l []union.Message
	for _, m := range f.Messages {
		all := true
		for n := 1; n < m.Number; n++ {
			all = all && slowHas(f, m.Device, n)
		}
		if all {
			l = append(l, m)
		}
	}
	return l
}

func slowGaps(f union.Follower) []union.Gap {
	greatest := map[string]int{}
	for _, m := range f.Messages {
		greatest[m.Device] = max(greatest[m.Device], m.Number)
	}
	var l []union.Gap
	for device := range greatest {
		for n := 1; n < greatest[device]; n++ {
			if !slowHas(f, device, n) {
				l = append(l, union.Gap{Device: device, Number: n})
				break
			}
		}
	}
	sort.Slice(l, func(i, k int) bool { return l[i].Device < l[k].Device })
	return l
}

// slowJoin returns the messages of both, with their errors.
func slowJoin(a, b union.Follower) (union.Follower, api.Errno) {
	var l []union.Message
	for _, m := range append(slices.Clone(a.Messages), b.Messages...) {
		found := false
		for _, other := range l {
			if other.Device == m.Device && other.Number == m.Number {
				if other != m {
					return union.Follower{}, api.ErrConflict
				}
				found = true
			}
		}
		if !found {
			l = append(l, m)
		}
	}
	if len(l) > 1000 {
		return union.Follower{}, api.ErrMany
	}
	sort.Slice(l, func(i, k int) bool {
		return l[i].Device < l[k].Device || l[i].Device == l[k].Device && l[i].Number < l[k].Number
	})
	return union.Follower{Messages: l}, api.OK
}

func slowFollow(u union.Union, f union.Follower) []union.Standing {
	l := slowShown(f)
	sort.Slice(l, func(i, k int) bool {
		return l[i].Number < l[k].Number || l[i].Number == l[k].Number && l[i].Device < l[k].Device
	})
	u.Marks = nil
	for _, m := range l {
		var left []union.Mark
		for _, other := range u.Marks {
			if other.Player != m.Player || other.Hole != m.Hole {
				left = append(left, other)
			}
		}
		// Whoever a marker may be, it is not the player.
		u.Marks = append(left, union.Mark{Player: m.Player, By: "*", Hole: m.Hole, Entry: m.Entry})
	}
	return slowBoard(u)
}

func slowCheckEvent(e api.Event) api.Errno {
	f, known := formOf(e.Kind)
	switch {
	case e.Number < 1 || e.Number > 1000:
		return api.ErrRange
	case !known:
		return api.ErrKind
	case len(e.Names) != f.names || len(e.Values) != f.values:
		return api.ErrShape
	}
	for _, name := range e.Names {
		if !slowName.MatchString(name) {
			return api.ErrName
		}
	}
	for _, value := range e.Values {
		if value < 0 || value > 999999999 {
			return api.ErrRange
		}
	}
	switch {
	case !f.hasText && e.Text != "", strings.Contains(e.Text, "\n"), strings.Contains(e.Text, "#"):
		return api.ErrForm
	case len(e.Text) > 4096:
		return api.ErrLong
	}
	return api.OK
}

// slowCounting returns the events that count.
func slowCounting(l []api.Event) []api.Event {
	var counting []api.Event
	for _, e := range l {
		if e.Kind == "undo" {
			counting = counting[:len(counting)-1]
		} else {
			counting = append(counting, e)
		}
	}
	return counting
}

// slowPut puts a mark into the place of another one, or behind all.
func slowPut(l []union.Mark, m union.Mark) []union.Mark {
	for i, other := range l {
		if other.Player == m.Player && other.Hole == m.Hole && (other.By == other.Player) == (m.By == m.Player) {
			l[i] = m
			return l
		}
	}
	return append(l, m)
}

// slowDo does to a union what an event says.
func slowDo(u *union.Union, e api.Event) {
	switch e.Kind {
	case "club":
		u.Clubs = append(u.Clubs, e.Names[0])
	case "member":
		u.Members = append(u.Members, union.Member{Name: e.Names[0], Club: e.Names[1], Handicap: number(e.Text)})
	case "holes":
		u.Holes = holes(e.Text)
	case "mark":
		u.Marks = slowPut(u.Marks, union.Mark{Player: e.Names[0], By: e.Names[1], Hole: e.Values[0], Entry: entry(e.Text)})
	case "claim":
		u.Marks = slowPut(u.Marks, union.Mark{Player: e.Names[0], By: e.Names[0], Hole: e.Values[0], Entry: entry(e.Text)})
	case "sign":
		u.Signed = append(u.Signed, e.Names[0])
	case "ruling":
		by := ""
		for _, m := range u.Members {
			if by == "" && m.Name != e.Names[0] {
				by = m.Name
			}
		}
		for _, m := range u.Marks {
			if m.Player == e.Names[0] && m.Hole == e.Values[0] && m.By != m.Player {
				by = m.By
			}
		}
		u.Marks = slowPut(u.Marks, union.Mark{Player: e.Names[0], By: by, Hole: e.Values[0], Entry: entry(e.Text)})
		u.Marks = slowPut(u.Marks, union.Mark{Player: e.Names[0], By: e.Names[0], Hole: e.Values[0], Entry: entry(e.Text)})
	case "round":
		k := union.Kept{Name: e.Names[0], Holes: slices.Clone(u.Holes)}
		for _, m := range u.Members {
			if slices.Contains(u.Signed, m.Name) {
				k.Cards = append(k.Cards, slowCard(*u, m.Name))
			}
		}
		u.Past = append(u.Past, k)
		u.Marks, u.Signed = nil, nil
	}
}

// slowUnion returns the union after events that are accepted.
func slowUnion(l []api.Event) union.Union {
	var u union.Union
	for _, e := range slowCounting(l) {
		slowDo(&u, e)
	}
	return u
}

// slowRefusal returns the error with which an event without errors is not accepted after others.
func slowRefusal(l []api.Event, e api.Event) api.Errno {
	if e.Number != len(l)+1 {
		return api.ErrOrder
	}
	u := slowUnion(l)
	if err := slowRefusalBy(u, e, len(slowCounting(l))); err != api.OK {
		return err
	}
	if e.Kind != "undo" {
		u = copyOf(u)
		slowDo(&u, e)
	}
	if len(u.Clubs) > 256 || len(u.Members) > 200 || len(u.Marks) > 1000 || len(u.Past) > 256 {
		return api.ErrMany
	}
	return api.OK
}

func slowRefusalBy(u union.Union, e api.Event, counting int) api.Errno {
	isMember := func(name string) bool {
		return slices.ContainsFunc(u.Members, func(m union.Member) bool { return m.Name == name })
	}
	name := ""
	if len(e.Names) > 0 {
		name = e.Names[0]
	}
	signed := slices.Contains(u.Signed, name)
	switch e.Kind {
	case "club":
		if slices.Contains(u.Clubs, name) {
			return api.ErrTwice
		}
	case "member":
		switch {
		case !slices.Contains(u.Clubs, e.Names[1]):
			return api.ErrUnknown
		case isMember(name):
			return api.ErrTwice
		case !slowInteger.MatchString(e.Text):
			return api.ErrSyntax
		case number(e.Text) < -99 || number(e.Text) > 99:
			return api.ErrRange
		}
	case "holes":
		switch {
		case len(u.Marks) > 0:
			return api.ErrState
		case !slowHoles.MatchString(e.Text):
			return api.ErrSyntax
		}
		return slowCheckHoles(holes(e.Text))
	case "sign":
		switch {
		case !isMember(name):
			return api.ErrUnknown
		case signed:
			return api.ErrOver
		}
		return slowSignable(u, name)
	case "round":
		switch {
		case slices.ContainsFunc(u.Past, func(k union.Kept) bool { return k.Name == name }):
			return api.ErrTwice
		case len(u.Signed) == 0:
			return api.ErrEmpty
		}
		for _, m := range u.Marks {
			if !slices.Contains(u.Signed, m.Player) {
				return api.ErrState
			}
		}
	case "undo":
		if counting == 0 {
			return api.ErrEmpty
		}
	default:
		switch {
		case !isMember(name) || e.Kind == "mark" && !isMember(e.Names[1]):
			return api.ErrUnknown
		case e.Kind == "mark" && e.Names[1] == name:
			return api.ErrTwice
		case e.Values[0] < 1 || e.Values[0] > len(u.Holes):
			return api.ErrUnknown
		case !slowWord.MatchString(e.Text):
			return api.ErrSyntax
		case entry(e.Text).Mark != "x" && entry(e.Text).Mark != "-" && (entry(e.Text).Strokes < 1 || entry(e.Text).Strokes > 99):
			return api.ErrRange
		case e.Kind != "ruling" && signed:
			return api.ErrOver
		case e.Kind == "ruling" && len(u.Members) < 2:
			return api.ErrNone
		}
	}
	return api.OK
}

func slowCheckHoles(l []api.Hole) api.Errno {
	if len(l) > 36 {
		return api.ErrMany
	}
	for i, h := range l {
		if h.Par < 3 || h.Par > 6 || h.Index < 1 || h.Index > len(l) {
			return api.ErrRange
		}
		for _, other := range l[:i] {
			if other.Index == h.Index {
				return api.ErrTwice
			}
		}
	}
	return api.OK
}

// slowReplay replays events.
func slowReplay(l []api.Event) (replayed, api.Errno) {
	if len(l) > 1000 {
		return replayed{}, api.ErrMany
	}
	for i, e := range l {
		err := slowCheckEvent(e)
		if err == api.OK {
			err = slowRefusal(l[:i], e)
		}
		if err != api.OK {
			return replayed{place: i + 1}, err
		}
	}
	return replayed{union: slowUnion(l)}, api.OK
}

// slowSeal returns the seal of a body after another one.
func slowSeal(body string, p int) int {
	s := p
	for i := range len(body) {
		s = (31*s + int(body[i]) + 1) % 16777213
	}
	return s
}

// slowBody returns the body of an event.
func slowBody(e api.Event) string {
	body := fmt.Sprintf("%d %s", e.Number, e.Kind)
	for _, name := range e.Names {
		body += " " + name
	}
	for _, value := range e.Values {
		body += fmt.Sprintf(" %d", value)
	}
	if f, _ := formOf(e.Kind); f.hasText {
		body += " " + e.Text
	}
	return body
}

// slowLog returns the log of events.
func slowLog(l []api.Event) string {
	log, seal := "", 0
	for _, e := range l {
		seal = slowSeal(slowBody(e), seal)
		log += fmt.Sprintf("%s#%06x\n", slowBody(e), seal)
	}
	return log
}

// slowEvent returns the event with a body.
func slowEvent(body string) (api.Event, bool) {
	words := strings.Split(body, " ")
	if len(words) < 2 {
		return api.Event{}, false
	}
	f, known := formOf(words[1])
	if !known || len(words) < 2+f.names+f.values {
		return api.Event{}, false
	}
	e := api.Event{Kind: words[1], Names: words[2 : 2+f.names]}
	e.Number, _ = strconv.Atoi(words[0])
	for _, word := range words[2+f.names : 2+f.names+f.values] {
		value, _ := strconv.Atoi(word)
		e.Values = append(e.Values, value)
	}
	e.Text = strings.Join(words[2+f.names+f.values:], " ")
	return e, slowCheckEvent(e) == api.OK && slowBody(e) == body
}

// slowRecover finds the longest beginning of a text that is a log.
func slowRecover(text string) (recovered, api.Errno) {
	if len(text) > 1000000 {
		return recovered{}, api.ErrLong
	}
	var l []api.Event
	seal, length := 0, 0
	for {
		rest := text[length:]
		if rest == "" {
			return recovered{l, length}, api.OK
		}
		end := strings.Index(rest, "\n")
		if end < 0 {
			return recovered{l, length}, api.ErrTorn
		}
		at := strings.LastIndex(rest[:end], "#")
		if at < 0 || !regexp.MustCompile(`^[0-9a-f]{6}$`).MatchString(rest[at+1:end]) {
			return recovered{l, length}, api.ErrSyntax
		}
		seal = slowSeal(rest[:at], seal)
		if digits, _ := strconv.ParseInt(rest[at+1:end], 16, 64); int(digits) != seal {
			return recovered{l, length}, api.ErrCheck
		}
		e, right := slowEvent(rest[:at])
		if !right {
			return recovered{l, length}, api.ErrSyntax
		}
		if len(l) == 1000 {
			return recovered{l, length}, api.ErrMany
		}
		l, length = append(l, e), length+end+1
	}
}

// joinInts joins numbers with blanks.
func joinInts(l []int) string {
	return strings.Trim(fmt.Sprint(l), "[]")
}

// slowSession is a console that remembers nothing but its events.
type slowSession struct {
	events []api.Event
}

func (s *slowSession) do(line string) (string, api.Errno) {
	words := strings.Split(line, " ")
	switch {
	case len(line) > 4096:
		return "", api.ErrLong
	case line == "":
		return "", api.ErrSyntax
	}
	if f, known := formOf(words[0]); known {
		return s.add(words, f)
	}
	asked := map[string]int{"card": 2, "open": 2, "differs": 2, "board": 1, "signed": 1, "past": 1}
	n, known := asked[words[0]]
	if !known {
		return "", api.ErrKind
	}
	if len(words) != n || words[n-1] == "" {
		return "", api.ErrSyntax
	}
	u := slowUnion(s.events)
	if n == 2 && !slices.ContainsFunc(u.Members, func(m union.Member) bool { return m.Name == words[1] }) {
		return "", api.ErrUnknown
	}
	var answer []string
	switch words[0] {
	case "card":
		return slowPrint(slowCard(u, words[1]).Entries)
	case "open":
		answer = strings.Fields(joinInts(slowOpen(u, words[1])))
	case "differs":
		answer = strings.Fields(joinInts(slowDiffers(u, words[1])))
	case "board":
		for _, x := range slowBoard(u) {
			answer = append(answer, fmt.Sprintf("%s:%d:%d", x.Player, x.Par, x.Through))
		}
	case "signed":
		answer = u.Signed
	case "past":
		for _, k := range u.Past {
			answer = append(answer, fmt.Sprintf("%s:%d", k.Name, len(k.Cards)))
		}
	}
	if len(answer) == 0 {
		return "none", api.OK
	}
	return strings.Join(answer, " "), api.OK
}

func (s *slowSession) add(words []string, f form) (string, api.Errno) {
	n := 1 + f.names + f.values
	right := len(words) == n || f.hasText && len(words) > n
	if f.hasText && len(words) == n {
		right = false
	}
	if !right || slices.Contains(words[1:1+f.names], "") {
		return "", api.ErrSyntax
	}
	e := api.Event{Number: len(s.events) + 1, Kind: words[0], Names: words[1 : 1+f.names], Text: strings.Join(words[n:], " ")}
	for _, word := range words[1+f.names : n] {
		if !slowInteger.MatchString(word) || number(word) < 0 {
			return "", api.ErrSyntax
		}
		e.Values = append(e.Values, number(word))
	}
	if len(s.events) == 1000 {
		return "", api.ErrMany
	}
	err := slowCheckEvent(e)
	if err == api.OK {
		err = slowRefusal(s.events, e)
	}
	if err != api.OK {
		return "", err
	}
	s.events = append(s.events, e)
	return fmt.Sprint("done ", e.Number), api.OK
}

// slowPrint returns the normal form of entries.
func slowPrint(l []api.Entry) (string, api.Errno) {
	if len(l) == 0 {
		return "", api.ErrEmpty
	}
	var words []string
	for from := 0; from < len(l); from += 9 {
		nine := l[from:min(from+9, len(l))]
		if from > 0 {
			words = append(words, "|")
		}
		for len(nine) > 0 {
			n := 1
			for n < len(nine) && nine[n] == nine[0] {
				n++
			}
			word := nine[0].Mark
			if nine[0].Strokes > 0 {
				word = fmt.Sprint(nine[0].Strokes, word)
			}
			if n >= 3 {
				words = append(words, fmt.Sprint(n, "*", word))
				nine = nine[n:]
			} else {
				words = append(words, word)
				nine = nine[1:]
			}
		}
	}
	return strings.Join(words, " "), api.OK
}

var (
	someClubs   = []string{"links", "moor", "sea"}
	somePlayers = []string{"ann", "ben", "cem", "dan", "eva"}
	someHoles   = []string{"4:2 3:1", "3:1", "5:3 4:1 6:2", "4:1 4:2 4:3 4:4 4:5 4:6 4:7 4:8 4:9 3:10"}
)

func randomEntry(random *rand.Rand) string {
	switch random.Intn(8) {
	case 0:
		return "x"
	case 1:
		return "-"
	case 2:
		return fmt.Sprint(1+random.Intn(6), "c")
	}
	return fmt.Sprint(pick(random, 1, 3, 4, 4, 5, 7, 99))
}

// randomText returns the text of an event that may be wrong.
func randomText(random *rand.Rand) string {
	return pick(random, "", "0", "-0", "7", "-7", "07", "99", "-99", "100", "-100", "0c", "100c", "c", "1234567890", "999999999", "x", "-", "xx", "5 6", " 5", "5 ", "3*4", "|", "4:1", "4:2 3:1", "4:1 4:1", "4:2 3:3", "7:1", "2:1", "4:1 ", "4:01", ":1", "4:", "4:1:1", "-4:1", "a#b", "a\nb", "\xff", "é")
}

// someLines returns lines with which a union begins.
func someLines(random *rand.Rand) []string {
	lines := []string{"club links"}
	for _, i := range random.Perm(len(somePlayers))[:1+random.Intn(4)] {
		lines = append(lines, "member "+somePlayers[i]+" links "+pick(random, "0", "7", "-99"))
	}
	return append(lines, "holes "+pick(random, someHoles...))
}

// leading returns a line that leads to a round of the past.
func leading(random *rand.Rand, u union.Union) string {
	for _, m := range u.Marks {
		if slices.Contains(u.Signed, m.Player) {
			continue
		}
		if wrong := append(slowOpen(u, m.Player), slowDiffers(u, m.Player)...); len(wrong) > 0 {
			return fmt.Sprint("ruling ", m.Player, " ", wrong[0], " ", randomEntry(random))
		}
		return "sign " + m.Player
	}
	return "round " + pick(random, "one", "two", "three", "four", "five")
}

// randomLine returns a line that is often accepted after some events.
func randomLine(random *rand.Rand, u union.Union) string {
	if random.Intn(3) == 0 {
		return leading(random, u)
	}
	player, other := pick(random, somePlayers...), pick(random, somePlayers...)
	if len(u.Members) > 0 && random.Intn(4) > 0 {
		player, other = pick(random, u.Members...).Name, pick(random, u.Members...).Name
	}
	hole := fmt.Sprint(1 + random.Intn(max(1, len(u.Holes))))
	if wrong := append(slowOpen(u, player), slowDiffers(u, player)...); len(wrong) > 0 && random.Intn(2) == 0 {
		hole = fmt.Sprint(wrong[0])
	}
	text := randomEntry(random)
	if len(u.Marks) > 0 && random.Intn(3) == 0 {
		// What has been marked is claimed, and the other way round.
		m := pick(random, u.Marks...)
		player, hole = m.Player, fmt.Sprint(m.Hole)
		text, _ = slowPrint([]api.Entry{m.Entry})
	}
	if random.Intn(12) == 0 {
		text = randomText(random)
	}
	if random.Intn(30) == 0 {
		hole = pick(random, "0", "3", "37", "999999999", "1000000000", "01", "x", "-1", "")
	}
	if random.Intn(30) == 0 {
		player = pick(random, "", "1", "zoe", "a#b", "a\nb", strings.Repeat("a", 25))
	}
	switch random.Intn(24) {
	case 0, 1:
		return "club " + pick(random, someClubs...)
	case 2, 3:
		return "member " + player + " " + pick(random, someClubs...) + " " + pick(random, "0", "3", "-5", "99", "-99", randomText(random))
	case 4:
		return "holes " + pick(random, pick(random, someHoles...), pick(random, someHoles...), randomText(random))
	case 5, 6, 7, 8, 9:
		return "mark " + player + " " + other + " " + hole + " " + text
	case 10, 11, 12:
		return "claim " + player + " " + hole + " " + text
	case 13, 14, 15:
		return "ruling " + player + " " + hole + " " + text
	case 16, 17, 18:
		return "sign " + player
	case 19, 20:
		return "undo"
	case 21:
		return pick(random, "card", "open", "differs") + " " + player
	case 22:
		return pick(random, "board", "signed", "past")
	}
	return pick(random, "", " ", "undo x", "undo ", "board ", "past x", "card", "card a b", "club", "club  x", "holes", "mark ann ben 1", "mark ann  1 4", "walls", " club x", "club x y", "claim ann 1", "Board", "board\n")
}
