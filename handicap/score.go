package handicap

import (
	"cmp"
	"slices"

	"niblick/api"
	"niblick/card"
)

// compare compares scores by day and number, which is their order.
func (s Score) compare(other Score) int {
	return cmp.Or(cmp.Compare(s.Day, other.Day), cmp.Compare(s.Number, other.Number))
}

func sorted(l []Score) []Score {
	return slices.SortedFunc(slices.Values(l), Score.compare)
}

// Sorted returns scores in their order.
func Sorted(l []Score) ([]Score, api.Errno) {
	if e := CheckScores(l); e != api.OK {
		return nil, e
	}
	return sorted(l), api.OK
}

// Merge returns the scores of both lists.
func Merge(a, b []Score) ([]Score, api.Errno) {
	if e := first(CheckScores(a), CheckScores(b)); e != api.OK {
		return nil, e
	}
	more, e := missing(a, b)
	joined := slices.Concat(a, more)
	if e := first(e, short(joined, api.MaxList)); e != api.OK {
		return nil, e
	}
	return sorted(joined), api.OK
}

// missing returns the scores of b whose numbers a does not have; those that it has must be the same.
func missing(a, b []Score) ([]Score, api.Errno) {
	known := map[int]Score{}
	for _, s := range a {
		known[s.Number] = s
	}
	var more []Score
	for _, s := range b {
		switch same, there := known[s.Number]; {
		case !there:
			more = append(more, s)
		case same != s:
			return nil, api.ErrConflict
		}
	}
	return more, api.OK
}

// Correct returns scores with another one in the place of that with its number.
func Correct(l []Score, s Score) ([]Score, api.Errno) {
	if e := first(CheckScores(l), CheckScore(s)); e != api.OK {
		return nil, e
	}
	place := slices.IndexFunc(l, func(old Score) bool { return old.Number == s.Number })
	if place < 0 {
		return nil, api.ErrUnknown
	}
	corrected := slices.Clone(l)
	corrected[place] = s
	return sorted(corrected), api.OK
}

// Differential returns the differential of a score.
func Differential(s Score) (api.Rat, api.Errno) {
	if e := CheckScore(s); e != api.OK {
		return "", e
	}
	return differential(s).rat(), api.OK
}

// differential returns the differential of a score that has been checked.
func differential(s Score) tenths {
	rating, _ := readRating(s.Rating)
	above := card.Integer(s.Gross - s.Conditions).Minus(rating)
	return tenthsOf(above.Times(ratio(Base, s.Slope)))
}
