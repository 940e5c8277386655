package format

import (
	"cmp"
	"slices"

	"niblick/api"
	"niblick/card"
)

// pointsOfPar is the points of a hole in par.
const pointsOfPar = 2

// Given returns the strokes given on each hole.
func Given(h []api.Hole, handicap int) ([]int, api.Errno) {
	if e := first(card.CheckHoles(h), checkHandicap(handicap)); e != api.OK {
		return nil, e
	}
	return given(h, handicap), api.OK
}

func given(h []api.Hole, handicap int) []int {
	all, some := divided(handicap, len(h))
	return eachOf(h, func(hole api.Hole) int {
		if hole.Index <= some {
			return all + 1
		}
		return all
	})
}

// round is the entries of a player, with the net strokes of the same holes.
type round struct {
	entries []api.Entry
	nets    []Net
}

// readRound returns the round of a player, or the error of the player.
func readRound(h []api.Hole, p Player) (round, api.Errno) {
	if e := CheckPlayer(h, p); e != api.OK {
		return round{}, e
	}
	return roundOf(h, p), api.OK
}

// roundOf returns the round of a player who has been checked.
func roundOf(h []api.Hole, p Player) round {
	r := round{entries: p.Card.Entries}
	for i, strokesGiven := range given(h, p.Handicap) {
		r.nets = append(r.nets, netOf(r.entries[i], strokesGiven))
	}
	return r
}

func netOf(entry api.Entry, strokesGiven int) Net {
	if entry.Mark == picked || entry.Mark == unplayed {
		return Net{Mark: entry.Mark}
	}
	return Net{Strokes: entry.Strokes - strokesGiven}
}

func (n Net) counts() bool {
	return n.Mark == counting
}

func (n Net) strokes() int {
	return n.Strokes
}

func (r round) gross() int {
	return sumOf(r.entries, func(entry api.Entry) int { return entry.Strokes })
}

func (r round) net() int {
	return sumOf(r.nets, Net.strokes)
}

// isWhole reports whether all holes count.
func (r round) isWhole() bool {
	return !slices.ContainsFunc(r.nets, func(n Net) bool { return !n.counts() })
}

// whole returns a score of the round, which there is only if all holes count.
func (r round) whole(score func() int) (int, api.Errno) {
	if !r.isWhole() {
		return 0, api.ErrNone
	}
	return score(), api.OK
}

// Gross returns the gross score.
func Gross(h []api.Hole, p Player) (int, api.Errno) {
	r, e := readRound(h, p)
	if e != api.OK {
		return 0, e
	}
	return r.whole(r.gross)
}

// Nets returns the net strokes of each hole.
func Nets(h []api.Hole, p Player) ([]Net, api.Errno) {
	r, e := readRound(h, p)
	return r.nets, e
}

// Score returns the net score.
func Score(h []api.Hole, p Player) (int, api.Errno) {
	r, e := readRound(h, p)
	if e != api.OK {
		return 0, e
	}
	return r.whole(r.net)
}

// Points returns the points of each hole.
func Points(h []api.Hole, p Player) ([]int, api.Errno) {
	return byPar(h, p, 0, func(under int) int { return max(0, pointsOfPar+under) })
}

// Against returns the results against par.
func Against(h []api.Hole, p Player) ([]int, api.Errno) {
	return byPar(h, p, -1, func(under int) int { return cmp.Compare(under, 0) })
}

// byPar returns what the holes of a player give that count, by how many net strokes they are under par, and for each other one the same.
func byPar(h []api.Hole, p Player, otherwise int, give func(under int) int) ([]int, api.Errno) {
	r, e := readRound(h, p)
	results := make([]int, len(r.nets))
	for i, n := range r.nets {
		results[i] = otherwise
		if n.counts() {
			results[i] = give(h[i].Par - n.Strokes)
		}
	}
	return results, e
}
