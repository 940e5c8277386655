package event

import (
	"cmp"
	"slices"

	"niblick/api"
)

// nobody is what Within is if nobody remains because of it.
const nobody = -1

func (line Line) isRanked() bool {
	return line.State != out && line.State != dis
}

// compare compares ranked lines; the better one is less.
func (line Line) compare(other Line) int {
	return cmp.Or(
		cmp.Compare(len(other.Scores), len(line.Scores)),
		cmp.Compare(sumOf(line.Scores), sumOf(other.Scores)))
}

// upTo returns a copy of a line with no more than its first scores.
func (line Line) upTo(scores int) Line {
	line.Scores = slices.Clone(line.Scores[:min(scores, len(line.Scores))])
	return line
}

// placesOf returns the places of those lines that take part in a ranking.
func placesOf(l []Line, takesPart func(line Line) bool) []Place {
	var places []Place
	for _, i := range numbers(len(l), func(i int) bool { return takesPart(l[i]) }) {
		better := numbers(len(l), func(j int) bool { return takesPart(l[j]) && l[j].compare(l[i]) < 0 })
		places = append(places, Place{Line: i, Rank: 1 + len(better), Total: sumOf(l[i].Scores)})
	}
	slices.SortStableFunc(places, func(a, b Place) int { return cmp.Compare(a.Rank, b.Rank) })
	return places
}

// Leaderboard returns the places of a field.
func Leaderboard(l []Line) ([]Place, api.Errno) {
	if e := CheckField(l); e != api.OK {
		return nil, e
	}
	return placesOf(l, Line.isRanked), api.OK
}

// isComplete reports whether a line has the scores of all rounds up to a cut.
func (r Rule) isComplete(line Line) bool {
	return len(line.Scores) >= r.After
}

// total returns the total of a line that is complete at a cut.
func (r Rule) total(line Line) int {
	return sumOf(line.Scores[:r.After])
}

// candidates returns the lines without a state that are complete.
func (r Rule) candidates(l []Line) []Line {
	return slices.DeleteFunc(slices.Clone(l), func(line Line) bool {
		return line.State != playing || !r.isComplete(line)
	})
}

// cutLine returns the cut line of candidates, of whom there is one at least.
func (r Rule) cutLine(candidates []Line) int {
	totals := slices.Sorted(slices.Values(eachOf(candidates, r.total)))
	// If Within is -1, the second one is below the least total, and so never the greater one.
	return max(totals[min(r.Places, len(totals))-1], totals[0]+r.Within)
}

// misses reports whether a line misses a cut with this cut line, as no line with a state does.
func (r Rule) misses(line Line, cutLine int) bool {
	return line.State == playing && (!r.isComplete(line) || r.total(line) > cutLine)
}

// after returns the lines after a cut with this cut line.
func (r Rule) after(l []Line, cutLine int) []Line {
	return eachOf(l, func(line Line) Line {
		copied := line.upTo
		if !r.misses(line, cutLine) {
			return copied(len(line.Scores))
		}
		line = copied(r.After)
		line.State = cut
		return line
	})
}

// readCut returns the cut line of a field, or the first error of the field and the rule.
func readCut(l []Line, r Rule) (int, api.Errno) {
	if e := first(CheckField(l), r.check()); e != api.OK {
		return 0, e
	}
	without := numbers(len(l), func(i int) bool { return l[i].State == playing })
	candidates := r.candidates(l)
	e := first(
		unless(len(without) > 0, api.ErrEmpty),
		unless(len(without) == len(candidates), api.ErrState))
	if e != api.OK {
		return 0, e
	}
	return r.cutLine(candidates), api.OK
}

// Cut returns the lines that remain, and the cut line.
func Cut(l []Line, r Rule) ([]int, int, api.Errno) {
	line, e := readCut(l, r)
	if e != api.OK {
		return nil, 0, e
	}
	remain := numbers(len(l), func(i int) bool { return l[i].State == playing && !r.misses(l[i], line) })
	return remain, line, api.OK
}

// Miss returns a field after a cut.
func Miss(l []Line, r Rule) ([]Line, api.Errno) {
	line, e := readCut(l, r)
	if e != api.OK {
		return nil, e
	}
	return r.after(l, line), api.OK
}
