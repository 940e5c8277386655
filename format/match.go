package format

import (
	"cmp"
	"iter"
	"slices"
	"strconv"

	"niblick/api"
)

// duel is the net strokes of both sides on a hole of a match.
type duel struct {
	first, second Net
}

// duels goes through the holes of a match, each with the number of holes behind it.
func duels(a, b []Net) iter.Seq2[int, duel] {
	return func(yield func(to int, d duel) bool) {
		for i := range a {
			if !yield(len(a)-1-i, duel{a[i], b[i]}) {
				return
			}
		}
	}
}

// isPlayed reports whether no side has left out the hole.
func (d duel) isPlayed() bool {
	return d.first.Mark != unplayed && d.second.Mark != unplayed
}

// byMerit compares net strokes: a hole that counts is better than one that is picked up, and this one than one that is not played.
func byMerit(a, b Net) int {
	marks := []string{counting, picked, unplayed}
	return cmp.Or(
		cmp.Compare(slices.Index(marks, a.Mark), slices.Index(marks, b.Mark)),
		cmp.Compare(a.Strokes, b.Strokes))
}

// stateOf returns the state with so many holes up, and so many to play.
func stateOf(up, to int) State {
	return State{Up: up, To: to, Over: max(up, -up) > to || to == 0}
}

// states returns the states of a match.
func states(a, b []Net) []State {
	var l []State
	var s State
match:
	for to, d := range duels(a, b) {
		up := s.Up
		switch order := byMerit(d.first, d.second); {
		case s.Over, !d.isPlayed():
			break match
		case order < 0:
			up++
		case order > 0:
			up--
		}
		s = stateOf(up, to)
		l = append(l, s)
	}
	return l
}

// Match returns the states of the match of two players.
func Match(h []api.Hole, a, b Player) ([]State, api.Errno) {
	if e := checkPlayers(h, a, b); e != api.OK {
		return nil, e
	}
	return states(roundOf(h, a).nets, roundOf(h, b).nets), api.OK
}

// Sides returns the states of the match of two lists of net strokes.
func Sides(a, b []Net) ([]State, api.Errno) {
	e := first(checkNets(a), checkNets(b), unless(len(a) == len(b), api.ErrShape))
	if e != api.OK {
		return nil, e
	}
	return states(a, b), api.OK
}

// Describe returns the words of a state that is over.
func Describe(s State) (string, api.Errno) {
	proper := stateOf(s.Up, s.To)
	e := first(
		within(s.To, 0, api.MaxHoles),
		within(s.Up, -api.MaxHoles, api.MaxHoles),
		unless(proper.Over, api.ErrState),
		unless(s == proper, api.ErrForm))
	if e != api.OK {
		return "", e
	}
	return s.words(), api.OK
}

func (s State) words() string {
	winner, margin := "first ", s.Up
	if s.Up < 0 {
		winner, margin = "second ", -s.Up
	}
	switch {
	case s.Up == 0:
		return "halved"
	case s.To == 0:
		return winner + strconv.Itoa(margin) + " up"
	}
	return winner + strconv.Itoa(margin) + " and " + strconv.Itoa(s.To)
}
