package union

import (
	"iter"
	"slices"
	"strconv"
	"strings"

	"niblick/api"
)

// The form of records and of their seals.
const (
	sealSign   = "#"
	recordEnd  = "\n"
	sealDigits = 6
	sealBase   = 16
	sealFactor = 31
	seals      = 16777213
)

// sealOf returns the seal of a body after another seal.
func sealOf(body string, before int) int {
	s := before
	for _, b := range []byte(body) {
		s = (sealFactor*s + int(b) + 1) % seals
	}
	return s
}

// digitsOf returns a seal as digits.
func digitsOf(seal int) string {
	digits := strconv.FormatInt(int64(seal), sealBase)
	return strings.Repeat("0", sealDigits-len(digits)) + digits
}

// isSeal reports whether a text has the form of a seal.
func isSeal(text string) bool {
	return len(text) == sealDigits && strings.Trim(text, "0123456789abcdef") == ""
}

// bodyOf returns the body of an event.
func bodyOf(e api.Event) string {
	words := joined([]string{strconv.Itoa(e.Number), e.Kind}, e.Names...)
	words = joined(words, eachOf(e.Values, strconv.Itoa)...)
	if kinds()[e.Kind].hasText {
		words = joined(words, e.Text)
	}
	return strings.Join(words, " ")
}

// readBody reads the body of an event without errors.
func readBody(body string) (api.Event, bool) {
	word, line, _ := strings.Cut(body, " ")
	number, isNumber := readNatural(word)
	e, isLine := readLine(line)
	e.Number = number
	return e, isNumber && isLine && CheckEvent(e) == api.OK
}

// readLine reads the body of an event without its number. Its names may be any words.
func readLine(line string) (api.Event, bool) {
	word, _, _ := strings.Cut(line, " ")
	k, known := kinds()[word]
	values := 1 + k.names
	text := values + k.values
	all := text
	if k.hasText {
		all++
	}
	// What stands behind the values is not split, as a text may have blanks.
	words := strings.SplitN(line, " ", text+1)
	if !known || len(words) != all {
		return api.Event{}, false
	}
	e := api.Event{Kind: word, Names: slices.Clone(words[1:values])}
	for _, word := range words[values:text] {
		value, isNatural := readNatural(word)
		if !isNatural {
			return api.Event{}, false
		}
		e.Values = append(e.Values, value)
	}
	if k.hasText {
		e.Text = words[text]
	}
	return e, !slices.Contains(e.Names, "")
}

// record is an event of a log, its seal, and where its record ends.
type record struct {
	event api.Event
	seal  int
	end   int
}

// recordOf returns the record of an event after another seal, and its own seal.
func recordOf(e api.Event, before int) (string, int) {
	body := bodyOf(e)
	seal := sealOf(body, before)
	return body + sealSign + digitsOf(seal) + recordEnd, seal
}

// readRecord reads the record of a log that stands behind another one.
func readRecord(log string, before record) (record, api.Errno) {
	line, _, ends := strings.Cut(log[before.end:], recordEnd)
	if !ends {
		return record{}, api.ErrTorn
	}
	at := strings.LastIndex(line, sealSign)
	if at < 0 || !isSeal(line[at+1:]) {
		return record{}, api.ErrSyntax
	}
	seal := sealOf(line[:at], before.seal)
	if line[at+1:] != digitsOf(seal) {
		return record{}, api.ErrCheck
	}
	e, isBody := readBody(line[:at])
	return record{e, seal, before.end + len(line) + len(recordEnd)}, unless(isBody, api.ErrSyntax)
}

// records goes through the records of a text, up to the first one with an error.
func records(log string) iter.Seq2[record, api.Errno] {
	return func(yield func(record, api.Errno) bool) {
		var r record
		for r.end < len(log) {
			var e api.Errno
			if r, e = readRecord(log, r); !yield(r, e) || e != api.OK {
				return
			}
		}
	}
}

// readLog returns the records of the longest beginning of a text that is a log, and the error of what follows.
func readLog(log string) ([]record, api.Errno) {
	if len(log) > api.MaxLog {
		return nil, api.ErrLong
	}
	var l []record
	for r, e := range records(log) {
		if e = firstError(e, unless(len(l) < api.MaxEvents, api.ErrMany)); e != api.OK {
			return l, e
		}
		l = append(l, r)
	}
	return l, api.OK
}

// lastOf returns the last one of some records, or one that stands in front of all others.
func lastOf(l []record) record {
	if len(l) == 0 {
		return record{}
	}
	return l[len(l)-1]
}

// Append returns a log with a further record.
func Append(log string, e api.Event) (string, api.Errno) {
	l, err := readLog(log)
	err = firstError(err, CheckEvent(e), unless(len(l) < api.MaxEvents, api.ErrMany))
	if err != api.OK {
		return "", err
	}
	text, _ := recordOf(e, lastOf(l).seal)
	if len(log)+len(text) > api.MaxLog {
		return "", api.ErrLong
	}
	return log + text, api.OK
}

// Recover returns the events of the longest beginning that is a log, and its length, also beside the error of what follows.
func Recover(log string) ([]api.Event, int, api.Errno) {
	l, e := readLog(log)
	return eachOf(l, func(r record) api.Event { return r.event }), lastOf(l).end, e
}
