package play

import (
	"slices"

	"niblick/api"
	"niblick/card"
)

// The first and the last of the rules about the places of acts.
const (
	firstOfPlaces = 9
	lastOfPlaces  = 13
)

// broken returns the number of the first rule that is broken, or 0.
func broken(rules ...func() bool) int {
	for i, isBroken := range rules {
		if isBroken() {
			return i + 1
		}
	}
	return 0
}

// rules returns the rules in their order: whether an act breaks them. Each one may be asked if none before it is broken.
func (g game) rules(a Act) [Rules]func() bool {
	b, k := g.Balls[a.Player], kinds()[a.Kind]
	unlessIn := func(phase string) func() bool {
		return func() bool { return k.phase == phase && b.Phase != phase }
	}
	return [Rules]func() bool{
		func() bool { return b.Phase == done },
		unlessIn(inPlay),
		func() bool { return k.turned && g.Strict && g.turn() != a.Player },
		unlessIn(inDoubt),
		unlessIn(lifted),
		func() bool { return k.begun && b.Strokes == 0 },
		func() bool { return a.Kind == provisional && b.Spares > 0 && b.Spare == g.Hole.Cup },
		func() bool { return a.Kind == mark && g.lie(b.At) != green && !g.isDisturbed(a.Player) },
		func() bool { return a.Kind == back && !g.isBehind(b, a.At) },
		func() bool { return a.Kind == side && !g.isBeside(b, a.At) },
		func() bool { return a.Kind == side && g.isNearer(b, a.At) },
		func() bool { return k.relief && (g.lie(a.At) == out || g.lie(a.At) == water) },
		func() bool { return k.relief && g.lie(b.At) == bunker && g.lie(a.At) != bunker },
		func() bool { return g.successor(a).total() > api.MaxStrokes },
	}
}

// refusal returns the number of the rule that refuses an act, or 0.
func (g game) refusal(a Act) int {
	rules := g.rules(a)
	return broken(rules[:]...)
}

// total returns all strokes, those with a provisional ball included.
func (b Ball) total() int {
	return b.score() + b.Spares
}

// isDisturbed reports whether another ball in play is at most a club away from that of a player.
func (g game) isDisturbed(player int) bool {
	for other, b := range g.Balls {
		if other != player && b.Phase == inPlay && squareOf(b.At, g.Balls[player].At) <= g.Club*g.Club {
			return true
		}
	}
	return false
}

// isBehind reports whether a place is on the half-line from the reference away from the cup. If the reference is the cup, each place is.
func (g game) isBehind(b Ball, at api.Place) bool {
	reference, place := vectorOf(g.Hole.Cup, g.reference(b)), vectorOf(g.Hole.Cup, pointOf(at))
	// On the line of the reference, the product tells how far away on its side of the cup.
	return reference.isParallel(place) && reference.dot(place).Compare(reference.dot(reference)) >= 0
}

// isBeside reports whether a place is at most two clubs away from the reference.
func (g game) isBeside(b Ball, at api.Place) bool {
	way := vectorOf(at, g.reference(b))
	return way.dot(way).Compare(card.Integer(4*g.Club*g.Club)) <= 0
}

// isNearer reports whether a place is nearer to the cup than the reference.
func (g game) isNearer(b Ball, at api.Place) bool {
	reference, place := vectorOf(g.Hole.Cup, g.reference(b)), vectorOf(g.Hole.Cup, pointOf(at))
	return place.dot(place).Compare(reference.dot(reference)) < 0
}

// Legal returns 0 for a legal act, or the number of the rule that refuses it.
func Legal(s Setup, x State, a Act) (int, api.Errno) {
	g, e := readGame(s, x)
	if e = first(e, s.checkAct(a)); e != api.OK {
		return 0, e
	}
	return g.refusal(a), api.OK
}

// Next returns the successor of a state by a legal act.
func Next(s Setup, x State, a Act) (State, api.Errno) {
	g, e := readGame(s, x)
	if e = first(e, s.checkAct(a)); e != api.OK {
		return State{}, e
	}
	if g.refusal(a) != 0 {
		return State{}, api.ErrRule
	}
	return g.after(a).State, api.OK
}

// Options returns the kinds of acts that a player has, whatever their places are.
func Options(s Setup, x State, player int) ([]string, api.Errno) {
	g, e := readGame(s, x)
	if e = first(e, s.checkPlayer(player)); e != api.OK {
		return nil, e
	}
	var options []string
	for kind := range kinds() {
		if g.hasOption(player, kind) {
			options = append(options, kind)
		}
	}
	slices.Sort(options)
	return options, api.OK
}

// hasOption reports whether no rule but those about places refuses a kind of acts. Its place is the cup, as no penalty depends on that one.
func (g game) hasOption(player int, kind string) bool {
	rules := g.rules(Act{player, kind, g.Hole.Cup})
	return broken(slices.Concat(rules[:firstOfPlaces-1], rules[lastOfPlaces:])...) == 0
}
