package play

import (
	"niblick/api"
	"niblick/card"
	"niblick/course"
)

// The kinds of acts with rules of their own.
const (
	provisional = "provisional"
	mark        = "mark"
	back        = "back"
	side        = "side"
)

// kind says what an act of a kind needs, and what becomes of the ball of its player.
type kind struct {
	phase  string // in which the ball has to be; nothing if it has only to be not done
	placed bool   // whether the act has a place
	turned bool   // whether a strict order permits it only in turn
	begun  bool   // whether the player must have made a stroke
	relief bool   // whether the ball is laid at its place
	next   func(g game, b Ball, at api.Place) Ball
}

func kinds() map[string]kind {
	return map[string]kind{
		"stroke":    {phase: inPlay, placed: true, turned: true, next: game.stroke},
		"doubt":     {phase: inPlay, turned: true, next: game.doubt},
		provisional: {phase: inDoubt, placed: true, next: game.provisional},
		"found":     {phase: inDoubt, placed: true, next: game.found},
		"lost":      {phase: inDoubt, next: game.lost},
		"again":     {phase: inPlay, begun: true, next: game.again},
		back:        {phase: inPlay, placed: true, begun: true, relief: true, next: game.relief},
		side:        {phase: inPlay, placed: true, begun: true, relief: true, next: game.relief},
		"wrong":     {phase: inPlay, next: game.wrong},
		mark:        {phase: inPlay, next: game.mark},
		"replace":   {phase: lifted, next: game.replace},
		"concede":   {phase: inPlay, begun: true, next: game.concede},
		"pick":      {next: game.pick},
	}
}

// successor returns the ball of a player behind a legal act.
func (g game) successor(a Act) Ball {
	return kinds()[a.Kind].next(g, g.Balls[a.Player], a.At)
}

// after returns the game behind a legal act.
func (g game) after(a Act) game {
	g.Balls = exchanged(g.Balls, a.Player, g.successor(a))
	return g
}

// exchanged returns a copy of a list with another element at an index.
func exchanged[T any](l []T, i int, x T) []T {
	c := make([]T, len(l))
	copy(c, l)
	c[i] = x
	return c
}

func (g game) stroke(b Ball, at api.Place) Ball {
	b.Strokes++
	b.From = b.At
	return g.rest(b, at)
}

func (g game) doubt(b Ball, _ api.Place) Ball {
	b.Strokes++
	b.From = b.At
	b.Phase = inDoubt
	return b
}

func (g game) provisional(b Ball, at api.Place) Ball {
	if b.Spares == 0 {
		b.Spare = b.From
	}
	b.Spares++
	switch g.lie(at) {
	case out, water:
		b.Spares++
	default:
		b.Spare = at
	}
	return b
}

func (g game) found(b Ball, at api.Place) Ball {
	b.Spares, b.Spare = 0, b.From
	return g.rest(b, at)
}

func (g game) lost(b Ball, _ api.Place) Ball {
	at := b.From
	if b.Spares > 0 {
		at = b.Spare
	}
	b.Penalty++
	b.Strokes += b.Spares
	b.Spares, b.Spare = 0, b.From
	return g.holed(g.laid(b, at))
}

func (g game) again(b Ball, _ api.Place) Ball {
	b.Penalty++
	return g.laid(b, b.From)
}

// relief lays the ball at a place that is not in the water.
func (g game) relief(b Ball, at api.Place) Ball {
	b.Penalty++
	b.At, b.Edge = at, noEdge
	return b
}

func (g game) wrong(b Ball, _ api.Place) Ball {
	b.Penalty += 2
	return b
}

func (g game) mark(b Ball, _ api.Place) Ball {
	b.Phase = lifted
	return b
}

func (g game) replace(b Ball, _ api.Place) Ball {
	b.Phase = inPlay
	return b
}

func (g game) concede(b Ball, _ api.Place) Ball {
	b.Strokes++
	b.Phase, b.End = done, conceded
	return b
}

func (g game) pick(b Ball, _ api.Place) Ball {
	b.Phase, b.End = done, picked
	return b
}

// rest returns a ball, played from From, that comes to rest at a place.
func (g game) rest(b Ball, at api.Place) Ball {
	b.Phase = inPlay
	switch g.lie(at) {
	case out:
		b.Penalty++
		return g.laid(b, b.From)
	case water:
		b.At, b.Edge = at, g.edge(b, at)
	default:
		b.At, b.Edge = at, noEdge
	}
	return g.holed(b)
}

// edge returns where a ball that was played from From to a place came into the water.
func (g game) edge(b Ball, at api.Place) api.Point {
	entry, e := course.Entry(g.Hole, b.From, at, water)
	if e != api.OK {
		return pointOf(at)
	}
	if entry == "0" && g.lie(b.At) == water {
		return b.Edge
	}
	part, _ := card.Read(entry)
	return along(b.From, at, part)
}

// laid returns a ball that is laid where one was played from. It is not laid anew where it lies, so its Edge is still the one it had.
func (g game) laid(b Ball, at api.Place) Ball {
	b.Phase = inPlay
	if at == b.At {
		return b
	}
	b.At, b.Edge = at, noEdge
	if g.lie(at) == water {
		b.Edge = pointOf(at)
	}
	return b
}

// holed returns a ball that is done if it is in the cup.
func (g game) holed(b Ball) Ball {
	if b.At == g.Hole.Cup {
		b.Phase, b.End = done, holed
	}
	return b
}
