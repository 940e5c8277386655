package play

import (
	"slices"

	"niblick/api"
	"niblick/course"
)

// nobody is in turn if everyone has ended the hole, or looks for a ball.
const nobody = -1

// game is a setup with one of its states, both without errors.
type game struct {
	Setup
	State
}

// readGame returns a game, or its error.
func readGame(s Setup, x State) (game, api.Errno) {
	return game{s, x}, CheckState(s, x)
}

// lie returns the kind of area in which a place is.
func (s Setup) lie(p api.Place) string {
	// There is no error, as the hole and the place have been checked.
	kind, _, _ := course.Locate(s.Hole, p)
	return kind
}

// Start returns the state at the beginning.
func Start(s Setup) (State, api.Errno) {
	if e := CheckSetup(s); e != api.OK {
		return State{}, e
	}
	return s.start().State, api.OK
}

func (s Setup) start() game {
	tee := Ball{Phase: inPlay, At: s.Hole.Tee, From: s.Hole.Tee, Edge: noEdge, Spare: s.Hole.Tee}
	return game{s, State{slices.Repeat([]Ball{tee}, s.Players)}}
}

// Turn returns the player in turn.
func Turn(s Setup, x State) (int, api.Errno) {
	g, e := readGame(s, x)
	if e != api.OK {
		return 0, e
	}
	player := g.turn()
	if player == nobody {
		return 0, api.ErrOver
	}
	return player, api.OK
}

func (g game) turn() int {
	turn, farthest := nobody, -1
	for player, b := range g.Balls {
		switch square := squareOf(b.At, g.Hole.Cup); {
		case b.Phase != inPlay && b.Phase != lifted:
		case b.Strokes == 0:
			return player
		case square > farthest:
			turn, farthest = player, square
		}
	}
	return turn
}

// Lies returns the kinds of areas in which the balls are.
func Lies(s Setup, x State) ([]string, api.Errno) {
	g, e := readGame(s, x)
	if e != api.OK {
		return nil, e
	}
	return eachOf(g.Balls, func(b Ball) string { return g.lie(b.At) }), api.OK
}

// eachOf returns what the elements of a list give.
func eachOf[A, B any](l []A, give func(a A) B) []B {
	given := make([]B, len(l))
	for i, a := range l {
		given[i] = give(a)
	}
	return given
}

// Reference returns the point from which relief is measured.
func Reference(s Setup, x State, player int) (api.Point, api.Errno) {
	g, e := readGame(s, x)
	if e = first(e, s.checkPlayer(player)); e != api.OK {
		return api.Point{}, e
	}
	b := g.Balls[player]
	if b.Phase != inPlay {
		return api.Point{}, api.ErrState
	}
	return g.reference(b), api.OK
}

func (g game) reference(b Ball) api.Point {
	if g.lie(b.At) == water {
		return b.Edge
	}
	return pointOf(b.At)
}

// Entries returns the entries of a card.
func Entries(s Setup, x State) ([]api.Entry, api.Errno) {
	g, e := readGame(s, x)
	if e != api.OK {
		return nil, e
	}
	return g.entries(), api.OK
}

func (x State) entries() []api.Entry {
	return eachOf(x.Balls, Ball.entry)
}

func (b Ball) entry() api.Entry {
	switch b.End {
	case holed:
		return api.Entry{Strokes: b.score()}
	case conceded:
		return api.Entry{Strokes: b.score(), Mark: "c"}
	case picked:
		return api.Entry{Mark: "x"}
	}
	return api.Entry{Mark: "-"}
}

// score returns the strokes and penalty strokes.
func (b Ball) score() int {
	return b.Strokes + b.Penalty
}
