package event

import (
	"iter"
	"maps"
	"slices"

	"niblick/api"
)

// Replay returns what acts have made, or the place of the first act with an error.
func Replay(l []Act) (Standing, int, api.Errno) {
	if len(l) > api.MaxEvents {
		return Standing{}, 0, api.ErrMany
	}
	for at, a := range l {
		if e := CheckAct(a); e != api.OK {
			return Standing{}, at + 1, e
		}
	}
	return replay(l), 0, api.OK
}

func replay(l []Act) Standing {
	b := &book{number: map[string]int{}, scores: map[turn][]int{}}
	table := kinds()
	for at, a := range l {
		if !table[a.Kind].record(b, at, a) {
			b.aside = append(b.aside, at)
		}
	}
	// The states out and dis, and what is void, are known before the first round, as they reach back.
	for round, places := range b.rounds() {
		b.give(round, l)
		b.makeCut(Rule{After: round, Places: places, Within: nobody})
	}
	slices.Sort(b.aside)
	return Standing{b.lines, b.aside}
}

// rounds goes through the rounds, each with the places of the cut after it.
func (b *book) rounds() iter.Seq2[int, int] {
	return func(yield func(round, places int) bool) {
		for round := 1; round <= maxRounds; round++ {
			if !yield(round, b.cuts[round]) {
				return
			}
		}
	}
}

// give gives the players their scores of a round. Whoever has missed a cut, or lacks a score, does not get any more of them.
func (b *book) give(round int, l []Act) {
	for i, line := range b.lines {
		recorded := b.scores[turn{line.Player, round}]
		if len(recorded) == 0 {
			continue
		}
		last := recorded[len(recorded)-1]
		if line.State == cut || len(line.Scores) < round-1 {
			b.aside = append(b.aside, last)
			continue
		}
		b.lines[i].Scores = append(line.Scores, l[last].Value)
	}
}

// makeCut makes a cut, if it has places and there are candidates.
func (b *book) makeCut(r Rule) {
	if candidates := r.candidates(b.lines); r.Places > 0 && len(candidates) > 0 {
		b.lines = r.after(b.lines, r.cutLine(candidates))
	}
}

// outcome is what a standing says of a player, in a form that can be compared: scores that there are not are 0.
type outcome struct {
	amateur bool
	state   string
	scores  [maxRounds]int
	rank    int
	prize   int
}

// outcomes returns the outcomes of the players of a standing. None of them is the zero value, as a line has a rank or a state.
func outcomes(l []Line, purse []int) map[string]outcome {
	won := prizes(l, purse)
	players := map[string]outcome{}
	for i, line := range l {
		o := outcome{amateur: line.Amateur, state: line.State, prize: won[i]}
		copy(o.scores[:], line.Scores)
		players[line.Player] = o
	}
	for _, p := range placesOf(l, Line.isRanked) {
		o := players[l[p.Line].Player]
		o.rank = p.Rank
		players[l[p.Line].Player] = o
	}
	return players
}

// Changed returns the players for whom two lists of acts make a difference.
func Changed(a, b []Act, purse []int) ([]string, api.Errno) {
	before, _, e := Replay(a)
	after, _, f := Replay(b)
	if e := first(e, f, checkPurse(purse)); e != api.OK {
		return nil, e
	}
	return differing(outcomes(before.Lines, purse), outcomes(after.Lines, purse)), api.OK
}

// differing returns the players whose outcomes differ, in ascending order.
func differing(a, b map[string]outcome) []string {
	both := maps.Clone(a)
	maps.Copy(both, b)
	players := slices.Sorted(maps.Keys(both))
	return slices.DeleteFunc(players, func(player string) bool { return a[player] == b[player] })
}
