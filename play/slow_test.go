package play_test

import (
	"math/big"
	"slices"
	"strings"

	"niblick/api"
	"niblick/course"
	"niblick/play"
)

// slow follows the definitions of the chapter word by word, with the numbers of the library.
type slow struct {
	s play.Setup
	x play.State
}

// spot is a point with numbers of the library.
type spot struct {
	x, y *big.Rat
}

func bigRat(a api.Rat) *big.Rat {
	x, ok := new(big.Rat).SetString(string(a))
	if !ok {
		panic("no number: " + a)
	}
	return x
}

func spotOf(p api.Point) spot { return spot{bigRat(p.X), bigRat(p.Y)} }

func placeSpot(p api.Place) spot {
	return spot{big.NewRat(int64(p.X), 1), big.NewRat(int64(p.Y), 1)}
}

func (a spot) point() api.Point {
	return point(api.Rat(a.x.RatString()), api.Rat(a.y.RatString()))
}

func minus(a, b *big.Rat) *big.Rat { return new(big.Rat).Sub(a, b) }

func (a spot) minus(b spot) spot { return spot{minus(a.x, b.x), minus(a.y, b.y)} }

// times returns a spot that is so many times as far from 0, 0.
func (a spot) times(n *big.Rat) spot {
	return spot{new(big.Rat).Mul(a.x, n), new(big.Rat).Mul(a.y, n)}
}

func (a spot) equals(b spot) bool { return a.x.Cmp(b.x) == 0 && a.y.Cmp(b.y) == 0 }

// distance returns the square of the distance of two spots.
func distance(a, b spot) *big.Rat {
	d := a.minus(b)
	return new(big.Rat).Add(new(big.Rat).Mul(d.x, d.x), new(big.Rat).Mul(d.y, d.y))
}

func (w slow) lie(p api.Place) string {
	kind, _, _ := course.Locate(w.s.Hole, p)
	return kind
}

func (w slow) reference(b play.Ball) spot {
	if w.lie(b.At) == "water" {
		return spotOf(b.Edge)
	}
	return placeSpot(b.At)
}

// turn returns the player in turn, or -1.
func (w slow) turn() int {
	var waiting []int
	for player, b := range w.x.Balls {
		if b.Phase == "play" || b.Phase == "lifted" {
			waiting = append(waiting, player)
		}
	}
	for _, player := range waiting {
		if w.x.Balls[player].Strokes == 0 {
			return player
		}
	}
	away := func(player int) *big.Rat {
		return distance(placeSpot(w.x.Balls[player].At), placeSpot(w.s.Hole.Cup))
	}
	for _, player := range waiting {
		if !slices.ContainsFunc(waiting, func(other int) bool { return away(other).Cmp(away(player)) > 0 }) {
			return player
		}
	}
	return -1
}

// onHalfLine reports whether a place is the cup and so many times the way from it to the reference, at least once.
func (w slow) onHalfLine(reference spot, place api.Place) bool {
	cup := placeSpot(w.s.Hole.Cup)
	if cup.equals(reference) {
		return true
	}
	way, to := reference.minus(cup), placeSpot(place).minus(cup)
	times := new(big.Rat)
	if way.x.Sign() != 0 {
		times.Quo(to.x, way.x)
	} else {
		times.Quo(to.y, way.y)
	}
	return way.times(times).equals(to) && times.Cmp(big.NewRat(1, 1)) >= 0
}

// among reports whether a kind is one of a list.
func among(kind, list string) bool {
	return slices.Contains(strings.Split(list, ", "), kind)
}

// breaks reports whether an act breaks a rule.
func (w slow) breaks(rule int, a play.Act) bool {
	b := w.x.Balls[a.Player]
	cup := placeSpot(w.s.Hole.Cup)
	switch rule {
	case 1:
		return b.Phase == "done"
	case 2:
		return among(a.Kind, "stroke, doubt, again, back, side, wrong, mark, concede") && b.Phase != "play"
	case 3:
		return among(a.Kind, "stroke, doubt") && w.s.Strict && w.turn() != a.Player
	case 4:
		return among(a.Kind, "provisional, found, lost") && b.Phase != "doubt"
	case 5:
		return a.Kind == "replace" && b.Phase != "lifted"
	case 6:
		return among(a.Kind, "again, back, side, concede") && b.Strokes < 1
	case 7:
		return a.Kind == "provisional" && b.Spares > 0 && b.Spare == w.s.Hole.Cup
	case 8:
		near := false
		for other, c := range w.x.Balls {
			near = near || other != a.Player && c.Phase == "play" && distance(placeSpot(b.At), placeSpot(c.At)).Cmp(big.NewRat(int64(w.s.Club*w.s.Club), 1)) <= 0
		}
		return a.Kind == "mark" && w.lie(b.At) != "green" && !near
	case 9:
		return a.Kind == "back" && !w.onHalfLine(w.reference(b), a.At)
	case 10:
		clubs := big.NewRat(int64(2*w.s.Club), 1)
		return a.Kind == "side" && distance(placeSpot(a.At), w.reference(b)).Cmp(clubs.Mul(clubs, clubs)) > 0
	case 11:
		return a.Kind == "side" && distance(placeSpot(a.At), cup).Cmp(distance(w.reference(b), cup)) < 0
	case 12:
		return among(a.Kind, "back, side") && among(w.lie(a.At), "out, water")
	case 13:
		return among(a.Kind, "back, side") && w.lie(b.At) == "bunker" && w.lie(a.At) != "bunker"
	}
	next := w.next(a)
	return next.Strokes+next.Penalty+next.Spares > 99
}

// rule returns the least number of a rule that an act breaks, or 0.
func (w slow) rule(a play.Act) int {
	for rule := 1; rule <= 14; rule++ {
		if w.breaks(rule, a) {
			return rule
		}
	}
	return 0
}

// options asks all rules but 9 to 13, with penalty strokes that do not depend on a place.
func (w slow) options(player int) []string {
	b := w.x.Balls[player]
	strokes := map[string]int{"stroke": 1, "doubt": 1, "provisional": 1, "found": -b.Spares, "lost": 1, "again": 1, "back": 1, "side": 1, "wrong": 2, "concede": 1}
	var options []string
kinds:
	for _, kind := range allKinds {
		for rule := 1; rule <= 8; rule++ {
			if w.breaks(rule, play.Act{Player: player, Kind: kind}) {
				continue kinds
			}
		}
		if b.Strokes+b.Penalty+b.Spares+strokes[kind] <= 99 {
			options = append(options, kind)
		}
	}
	return options
}

// next returns the successor of the ball by a legal act.
func (w slow) next(a play.Act) play.Ball {
	was := w.x.Balls[a.Player]
	b := was
	switch a.Kind {
	case "stroke":
		b.Strokes, b.From = was.Strokes+1, was.At
		return w.rest(was, b, was.At, a.At)
	case "doubt":
		b.Strokes, b.From, b.Phase = was.Strokes+1, was.At, "doubt"
	case "provisional":
		before := was.Spare
		if was.Spares == 0 {
			before = was.From
		}
		b.Spares, b.Spare = was.Spares+1, a.At
		if among(w.lie(a.At), "out, water") {
			b.Spares, b.Spare = was.Spares+2, before
		}
	case "found":
		b.Spares, b.Spare = 0, was.From
		return w.rest(was, b, was.From, a.At)
	case "lost":
		b.Penalty, b.Strokes, b.Spares, b.Spare = was.Penalty+1, was.Strokes+was.Spares, 0, was.From
		if was.Spares == 0 {
			b = w.laid(was, b, was.From)
		} else {
			b = w.laid(was, b, was.Spare)
		}
		if b.At == w.s.Hole.Cup {
			b.Phase, b.End = "done", "holed"
		}
	case "again":
		b.Penalty++
		return w.laid(was, b, was.From)
	case "back", "side":
		b.Penalty, b.At, b.Edge = was.Penalty+1, a.At, none
	case "wrong":
		b.Penalty += 2
	case "mark":
		b.Phase = "lifted"
	case "replace":
		b.Phase = "play"
	case "concede":
		b.Strokes, b.Phase, b.End = was.Strokes+1, "done", "conceded"
	case "pick":
		b.Phase, b.End = "done", "picked"
	}
	return b
}

func (w slow) rest(was, b play.Ball, from, to api.Place) play.Ball {
	b.Phase = "play"
	if w.lie(to) == "out" {
		b.Penalty++
		return w.laid(was, b, from)
	}
	b.At, b.Edge = to, none
	if to == w.s.Hole.Cup {
		b.Phase, b.End = "done", "holed"
	}
	if w.lie(to) != "water" {
		return b
	}
	b.Edge = placeSpot(to).point()
	parts, _ := course.Crosses(w.s.Hole, from, to)
	for _, part := range parts {
		if part.Kind != "water" {
			continue
		}
		t := bigRat(part.From)
		x, y := minus(placeSpot(to).x, placeSpot(from).x), minus(placeSpot(to).y, placeSpot(from).y)
		b.Edge = spot{x.Mul(x, t).Add(x, placeSpot(from).x), y.Mul(y, t).Add(y, placeSpot(from).y)}.point()
		if t.Sign() == 0 && w.lie(was.At) == "water" {
			b.Edge = was.Edge
		}
	}
	return b
}

func (w slow) laid(was, b play.Ball, place api.Place) play.Ball {
	b.Phase, b.At = "play", place
	if was.At == place {
		return b
	}
	b.Edge = none
	if w.lie(place) == "water" {
		b.Edge = placeSpot(place).point()
	}
	return b
}

// after returns what follows from a legal act.
func (w slow) after(a play.Act) slow {
	balls := slices.Clone(w.x.Balls)
	balls[a.Player] = w.next(a)
	return slow{w.s, play.State{Balls: balls}}
}

// standing returns what stands in the place of an act, if anything does.
func standing(l []play.Item, number int) (play.Act, bool) {
	last := l[number-1]
	for i, item := range l {
		if item.Replaces == number && i+1 > number {
			last = item
		}
	}
	return last.Act, !last.Void
}

// replay returns the state behind a log, what was set aside, and the scores of a player behind the acts in force.
func (w slow) replay(l []play.Item, player int) (slow, []play.Refusal, []int) {
	var aside []play.Refusal
	var scores []int
	for i, item := range l {
		number := i + 1
		if named := item.Replaces; named != 0 {
			if named >= number || l[named-1].Replaces != 0 {
				aside = append(aside, play.Refusal{Item: number})
			}
			continue
		}
		a, stands := standing(l, number)
		if !stands {
			continue
		}
		if rule := w.rule(a); rule == 0 {
			w = w.after(a)
		} else {
			aside = append(aside, play.Refusal{Item: number, Rule: rule})
		}
		scores = append(scores, w.x.Balls[player].Strokes+w.x.Balls[player].Penalty)
	}
	return w, aside, scores
}

func (w slow) entries() []api.Entry {
	var entries []api.Entry
	for _, b := range w.x.Balls {
		entries = append(entries, map[string]api.Entry{
			"":         {Mark: "-"},
			"holed":    {Strokes: b.Strokes + b.Penalty},
			"conceded": {Strokes: b.Strokes + b.Penalty, Mark: "c"},
			"picked":   {Mark: "x"},
		}[b.End])
	}
	return entries
}
