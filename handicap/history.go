package handicap

import (
	"cmp"
	"iter"
	"maps"
	"slices"

	"niblick/api"
	"niblick/card"
)

// The scores without which there is no index, those from which on nothing is added to the mean, and what part of the last scores counts.
const (
	leastScores   = 3
	plainScores   = 6
	countingParts = 2
	partsOfLast   = 5
)

// The strokes by which an index is above an exceptional differential, and those by which it can be above the low.
const (
	exceptionalByOne = 7
	exceptionalByTwo = 10
	softCap          = 3
	hardCap          = 5
)

// Rule returns how many of some scores count, and what is added to their mean.
func Rule(scores int) (int, api.Rat, api.Errno) {
	if e := within(scores, 0, api.MaxNumber); e != api.OK {
		return 0, "", e
	}
	count, added := rule(scores)
	return count, added.rat(), api.OK
}

func rule(scores int) (count int, added tenths) {
	if scores < leastScores {
		return 0, 0
	}
	count = max(1, min(scores, Last)*countingParts/partsOfLast)
	return count, min(0, tenths(scores-plainScores)) * stroke / 2
}

// step is a step of a history.
type step struct {
	day, number  int
	differential tenths
	exceptional  int
	known        bool
	index        tenths
}

func (s step) printed() Step {
	return Step{s.day, s.number, s.differential.rat(), s.exceptional, s.known, s.index.rat()}
}

// record is a history so far: its steps, and the strokes that were taken off scores, by their numbers.
type record struct {
	steps []step
	off   map[int]int
}

// readRecord returns the history of scores, or their error.
func readRecord(l []Score) (record, api.Errno) {
	if e := CheckScores(l); e != api.OK {
		return record{}, e
	}
	r := record{off: map[int]int{}}
	for _, s := range sorted(l) {
		r.add(s)
	}
	return r, api.OK
}

// add adds the step behind a score.
func (r *record) add(s Score) {
	now := step{day: s.Day, number: s.Number, differential: differential(s)}
	now.exceptional = r.exceptional(now.day, now.differential)
	r.steps = append(r.steps, now)
	for s := range r.last() {
		r.off[s.number] += now.exceptional
	}
	if len(r.steps) >= leastScores {
		now.known, now.index = true, r.index(now.day)
		r.steps[len(r.steps)-1] = now
	}
}

// last visits the steps of the scores that may count, the latest one first.
func (r *record) last() iter.Seq[step] {
	return func(yield func(s step) bool) {
		for i, s := range slices.Backward(r.steps) {
			if i < len(r.steps)-Last || !yield(s) {
				return
			}
		}
	}
}

// inYear visits the indexes of the year in front of a day.
func (r *record) inYear(day int) iter.Seq[tenths] {
	return func(yield func(index tenths) bool) {
		for _, s := range r.steps {
			if s.known && day-Year <= s.day && s.day < day && !yield(s.index) {
				return
			}
		}
	}
}

// indexOn returns the index behind the last step up to a day, if it is known.
func (r *record) indexOn(day int) (index tenths, known bool) {
	var last step
search:
	for _, s := range slices.Backward(r.steps) {
		switch {
		case s.day > day:
			continue
		default:
			last = s
			break search
		}
	}
	return last.index, last.known
}

// exceptional returns the strokes by which a score is exceptional behind the steps so far, none of which is of a later day.
func (r *record) exceptional(day int, differential tenths) int {
	index, known := r.indexOn(day)
	switch above := index - differential; {
	case !known:
		return 0
	case above >= exceptionalByTwo*stroke:
		return 2
	case above >= exceptionalByOne*stroke:
		return 1
	}
	return 0
}

// value is the value of a score at the last step.
func (r *record) value(s step) tenths {
	return s.differential - tenths(r.off[s.number])*stroke
}

// counting returns the scores that count at the last step. The latest ones come first, so of equal values the later ones count.
func (r *record) counting() []step {
	count, _ := rule(len(r.steps))
	ascending := slices.SortedStableFunc(r.last(), func(a, b step) int {
		return cmp.Compare(r.value(a), r.value(b))
	})
	return ascending[:count]
}

// index returns the index behind the last step, which is of this day.
func (r *record) index(day int) tenths {
	_, added := rule(len(r.steps))
	index := mean(r.counting(), func(s step) card.Fraction { return r.value(s).strokes() }).Plus(added.strokes())
	if low, known := r.low(day); known {
		index = capped(index, low.strokes())
	}
	return min(MaxIndex*stroke, tenthsOf(index))
}

// low returns the least index of the year in front of a day, if there is one.
func (r *record) low(day int) (low tenths, known bool) {
	for index := range r.inYear(day) {
		if !known || index < low {
			low, known = index, true
		}
	}
	return low, known
}

// capped returns what a low leaves of a plain index.
func capped(plain, low card.Fraction) card.Fraction {
	soft, hard := low.Plus(card.Integer(softCap)), low.Plus(card.Integer(hardCap))
	if plain.Compare(soft) <= 0 {
		return plain
	}
	half := plain.Minus(soft).Over(card.Integer(2))
	return slices.MinFunc([]card.Fraction{soft.Plus(half), hard}, card.Fraction.Compare)
}

// eachOf returns what the steps give.
func eachOf[T any](l []step, give func(s step) T) []T {
	given := make([]T, len(l))
	for i, s := range l {
		given[i] = give(s)
	}
	return given
}

// History returns the steps of a history.
func History(l []Score) ([]Step, api.Errno) {
	r, e := readRecord(l)
	return eachOf(r.steps, step.printed), e
}

// Index returns the index at the end of a day.
func Index(l []Score, day int) (api.Rat, api.Errno) {
	r, e := readRecord(l)
	index, known := r.indexOn(day)
	if e := first(e, checkDay(day), unless(known, api.ErrNone)); e != api.OK {
		return "", e
	}
	return index.rat(), api.OK
}

// Low returns the least index of the year in front of a day.
func Low(l []Score, day int) (api.Rat, api.Errno) {
	r, e := readRecord(l)
	low, known := r.low(day)
	if e := first(e, checkDay(day), unless(known, api.ErrNone)); e != api.OK {
		return "", e
	}
	return low.rat(), api.OK
}

// Counting returns the numbers of the scores that count at the end.
func Counting(l []Score) ([]int, api.Errno) {
	r, e := readRecord(l)
	numbers := eachOf(r.counting(), func(s step) int { return s.number })
	slices.Sort(numbers)
	return numbers, e
}

// Reductions returns what exceptional scores have taken off each score.
func Reductions(l []Score) ([]int, api.Errno) {
	r, e := readRecord(l)
	return eachOf(r.steps, func(s step) int { return r.off[s.number] }), e
}

// Changed returns the numbers of the scores behind which two histories differ.
func Changed(a, b []Score) ([]int, api.Errno) {
	before, e := readRecord(a)
	after, f := readRecord(b)
	if e := first(e, f); e != api.OK {
		return nil, e
	}
	return differing(before.byNumber(), after.byNumber()), api.OK
}

func (r *record) byNumber() map[int]step {
	steps := map[int]step{}
	for _, s := range r.steps {
		steps[s.number] = s
	}
	return steps
}

// differing returns the numbers of steps that differ, in ascending order; a step that is missing differs from each one.
func differing(a, b map[int]step) []int {
	both := maps.Clone(a)
	maps.Copy(both, b)
	var numbers []int
	for number := range both {
		if a[number] != b[number] {
			numbers = append(numbers, number)
		}
	}
	slices.Sort(numbers)
	return numbers
}
