package union

import (
	"slices"
	"strconv"
	"strings"

	"niblick/api"
	"niblick/card"
)

// undo is the kind of the events that take away another one.
const undo = "undo"

// kind says what an event of a kind has, and how it changes a union. An undo changes none: it takes another event away.
type kind struct {
	names   int
	values  int
	hasText bool
	change  func(u Union, e api.Event) (Union, api.Errno)
}

func kinds() map[string]kind {
	return map[string]kind{
		"club":   {names: 1, change: addClub},
		"member": {names: 2, hasText: true, change: addMember},
		"holes":  {hasText: true, change: setHoles},
		"mark":   {names: 2, values: 1, hasText: true, change: addMark},
		"claim":  {names: 1, values: 1, hasText: true, change: addMark},
		"sign":   {names: 1, change: sign},
		"ruling": {names: 1, values: 1, hasText: true, change: rule},
		"round":  {names: 1, change: keepRound},
		undo:     {},
	}
}

// CheckEvent returns the first error of an event by itself, or OK.
func CheckEvent(e api.Event) api.Errno {
	k, known := kinds()[e.Kind]
	return firstError(
		within(e.Number, 1, api.MaxEvents),
		unless(known, api.ErrKind),
		unless(len(e.Names) == k.names && len(e.Values) == k.values, api.ErrShape),
		checkEach(e.Names, func(_ int, name string) api.Errno { return checkName(name) }),
		checkEach(e.Values, func(_ int, value int) api.Errno { return within(value, 0, api.MaxNumber) }),
		unless(k.hasText || e.Text == "", api.ErrForm),
		unless(!strings.ContainsAny(e.Text, recordEnd+sealSign), api.ErrForm),
		unless(len(e.Text) <= api.MaxText, api.ErrLong))
}

// readInteger reads a decimal integer of at most as many digits as MaxNumber.
func readInteger(text string) (int, bool) {
	n, err := strconv.Atoi(text)
	return n, err == nil && -api.MaxNumber <= n && n <= api.MaxNumber && strconv.Itoa(n) == text
}

// readNatural reads a decimal integer without a sign.
func readNatural(text string) (int, bool) {
	n, isInteger := readInteger(text)
	return n, isInteger && n >= 0
}

// readEntry reads the word of an entry.
func readEntry(text string) (api.Entry, api.Errno) {
	// The notation of cards has further words, which are no entries.
	if text == "" || strings.ContainsAny(text, " *|") {
		return api.Entry{}, api.ErrSyntax
	}
	l, _, e := card.Parse(text)
	if e != api.OK {
		return api.Entry{}, e
	}
	return l[0], api.OK
}

// readHoles reads words with the par and the index of a hole.
func readHoles(text string) ([]api.Hole, bool) {
	var holes []api.Hole
	for word := range strings.SplitSeq(text, " ") {
		before, behind, _ := strings.Cut(word, ":")
		par, isPar := readNatural(before)
		index, isIndex := readNatural(behind)
		if !isPar || !isIndex {
			return nil, false
		}
		holes = append(holes, api.Hole{Par: par, Index: index})
	}
	return holes, true
}

func addClub(u Union, e api.Event) (Union, api.Errno) {
	known := u.knowsClub(e.Names[0]) == api.OK
	u.Clubs = joined(u.Clubs, e.Names[0])
	return u, unless(!known, api.ErrTwice)
}

func addMember(u Union, e api.Event) (Union, api.Errno) {
	name, club := e.Names[0], e.Names[1]
	handicap, isInteger := readInteger(e.Text)
	err := firstError(
		u.knowsClub(club),
		unless(u.knows(name) != api.OK, api.ErrTwice),
		unless(isInteger, api.ErrSyntax),
		checkHandicap(handicap))
	u.Members = joined(u.Members, Member{name, club, handicap})
	return u, err
}

func setHoles(u Union, e api.Event) (Union, api.Errno) {
	holes, isHoles := readHoles(e.Text)
	u.Holes = holes
	return u, firstError(
		unless(len(u.Marks) == 0, api.ErrState),
		unless(isHoles, api.ErrSyntax),
		card.CheckHoles(holes))
}

// addMark makes a marker's mark, which has two names, or a player's mark, whose one name is both the player and by whom it is.
func addMark(u Union, e api.Event) (Union, api.Errno) {
	player, by := e.Names[0], e.Names[len(e.Names)-1]
	entry, err := u.readMark(e)
	err = firstError(err, unless(!u.hasSigned(player), api.ErrOver))
	return u.with(Mark{player, by, e.Values[0], entry}), err
}

// rule makes both marks of a hole.
func rule(u Union, e api.Event) (Union, api.Errno) {
	player, hole := e.Names[0], e.Values[0]
	entry, err := u.readMark(e)
	marker, none := u.marker(player, hole)
	u = u.with(Mark{player, marker, hole, entry}).with(Mark{player, player, hole, entry})
	return u, firstError(err, none)
}

// readMark returns the entry of an event with a hole, or the first error of what it says.
func (u Union) readMark(e api.Event) (api.Entry, api.Errno) {
	entry, err := readEntry(e.Text)
	return entry, firstError(
		u.knows(e.Names...),
		unless(len(e.Names) == 1 || e.Names[0] != e.Names[1], api.ErrTwice),
		u.knowsHole(e.Values[0]),
		err)
}

func sign(u Union, e api.Event) (Union, api.Errno) {
	player := e.Names[0]
	err := firstError(
		u.knows(player),
		unless(!u.hasSigned(player), api.ErrOver),
		u.read().signable(player))
	u.Signed = joined(u.Signed, player)
	return u, err
}

// keepRound makes the cards of those who have signed a round of the past.
func keepRound(u Union, e api.Event) (Union, api.Errno) {
	kept := Kept{Name: e.Names[0], Holes: slices.Clone(u.Holes)}
	err := firstError(
		unless(!slices.ContainsFunc(u.Past, func(k Kept) bool { return k.Name == kept.Name }), api.ErrTwice),
		unless(len(u.Signed) > 0, api.ErrEmpty),
		unless(!slices.ContainsFunc(u.Marks, func(m Mark) bool { return !u.hasSigned(m.Player) }), api.ErrState))
	r := u.read()
	for _, m := range u.Members {
		if u.hasSigned(m.Name) {
			kept.Cards = append(kept.Cards, r.card(m.Name))
		}
	}
	u.Past = joined(u.Past, kept)
	u.Marks, u.Signed = nil, nil
	return u, err
}
