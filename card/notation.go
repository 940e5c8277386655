package card

import (
	"iter"
	"slices"
	"strconv"
	"strings"

	"niblick/api"
)

// The notation of entries: its bars, and how many digits its integers have.
const (
	bar        = "|"
	nine       = 9
	wordDigits = 9
	fewest     = 3 // as many equal neighbours are printed as a repetition
)

// Parse returns the entries with a notation, or the number of the first word with an error.
func Parse(s string) ([]api.Entry, int, api.Errno) {
	if len(s) > api.MaxText {
		return nil, 0, api.ErrLong
	}
	if s == "" {
		return nil, 0, api.ErrEmpty
	}
	var r reader
	last := 0
	for number, text := range words(s) {
		take := r.way(text)
		if e := take(text); e != api.OK {
			return nil, number, e
		}
		last = number
	}
	if r.afterBar {
		return nil, last, api.ErrOrder
	}
	return r.entries, 0, api.OK
}

// words returns the words of a text with their numbers, from 1 on; between two blanks is an empty one.
func words(s string) iter.Seq2[int, string] {
	return func(yield func(int, string) bool) {
		rest, more := s, true
		for number := 1; more; number++ {
			var text string
			text, rest, more = strings.Cut(rest, " ")
			if !yield(number, text) {
				return
			}
		}
	}
}

// reader has what was read so far.
type reader struct {
	entries  []api.Entry
	afterBar bool
}

// way returns how a word is taken.
func (r *reader) way(text string) func(string) api.Errno {
	switch {
	case text == bar:
		return r.takeBar
	case strings.Contains(text, "*"):
		return r.takeRepetition
	}
	return r.takeEntry
}

func (r *reader) takeBar(string) api.Errno {
	if len(r.entries) == 0 || len(r.entries)%nine != 0 || r.afterBar {
		return api.ErrOrder
	}
	r.afterBar = true
	return api.OK
}

func (r *reader) takeEntry(text string) api.Errno {
	entry, ok := entryOf(text)
	if !ok {
		return api.ErrSyntax
	}
	if e := checkEntry(entry); e != api.OK {
		return e
	}
	return r.add(entry, 1)
}

func (r *reader) takeRepetition(text string) api.Errno {
	before, after, _ := strings.Cut(text, "*")
	times, isTimes := integerOf(before)
	entry, isEntry := entryOf(after)
	if !isTimes || !isEntry {
		return api.ErrSyntax
	}
	if e := first(checkEntry(entry), within(times, 2, api.MaxHoles)); e != api.OK {
		return e
	}
	return r.add(entry, times)
}

func (r *reader) add(entry api.Entry, times int) api.Errno {
	if len(r.entries)+times > api.MaxHoles {
		return api.ErrMany
	}
	r.entries = append(r.entries, slices.Repeat([]api.Entry{entry}, times)...)
	r.afterBar = false
	return api.OK
}

// entryOf returns the entry with a word; its strokes may be any integer.
func entryOf(text string) (api.Entry, bool) {
	if text == "x" || text == "-" {
		return api.Entry{Mark: text}, true
	}
	digits, conceded := strings.CutSuffix(text, "c")
	strokes, ok := integerOf(digits)
	if !ok {
		return api.Entry{}, false
	}
	if conceded {
		return api.Entry{Strokes: strokes, Mark: "c"}, true
	}
	return api.Entry{Strokes: strokes}, true
}

func integerOf(digits string) (int, bool) {
	if !isInteger(digits) || len(digits) > wordDigits {
		return 0, false
	}
	n, e := strconv.Atoi(digits)
	return n, e == nil
}

// Print returns the notation of entries.
func Print(l []api.Entry) (string, api.Errno) {
	if e := first(sized(l, api.MaxHoles), checkEntries(l)); e != api.OK {
		return "", e
	}
	var texts []string
	for part := range slices.Chunk(l, nine) {
		if len(texts) > 0 {
			texts = append(texts, bar)
		}
		texts = append(texts, wordsOf(part)...)
	}
	return strings.Join(texts, " "), api.OK
}

// wordsOf returns the words of the entries of a nine.
func wordsOf(l []api.Entry) []string {
	known := marks()
	var texts []string
	for len(l) > 0 {
		text := known[l[0].Mark].word(l[0].Strokes)
		equal := leading(l)
		if equal >= fewest {
			text = strconv.Itoa(equal) + "*" + text
		} else {
			equal = 1
		}
		texts = append(texts, text)
		l = l[equal:]
	}
	return texts
}

// leading returns how many elements at the beginning of a list are equal.
func leading[T comparable](l []T) int {
	n := 1
	for n < len(l) && l[n] == l[0] {
		n++
	}
	return n
}
