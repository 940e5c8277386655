package strategy

import (
	"cmp"

	"niblick/api"
	"niblick/card"
)

// odds are Odds as numbers, or as multiples of a unit.
type odds struct {
	won, halved, lost card.Fraction
}

func readOdds(o Odds) (odds, api.Errno) {
	l, e := readEach([]api.Rat{o.Won, o.Halved, o.Lost}, card.Read)
	if e != api.OK {
		return odds{}, e
	}
	var sum card.Fraction
	for _, x := range l {
		if isLess(x, card.Fraction{}) {
			return odds{}, api.ErrRange
		}
		sum = sum.Plus(x)
	}
	if sum.Compare(card.Integer(1)) != 0 {
		return odds{}, api.ErrSum
	}
	return odds{l[0], l[1], l[2]}, api.OK
}

// numbers returns odds as a list.
func (o odds) numbers() []card.Fraction {
	return []card.Fraction{o.won, o.halved, o.lost}
}

// times returns odds in a unit that 1 has so often.
func (o odds) times(one card.Fraction) odds {
	return odds{o.won.Times(one), o.halved.Times(one), o.lost.Times(one)}
}

// mean returns the mean of what a win, a half and a loss are worth.
func (o odds) mean(win, half, loss card.Fraction) card.Fraction {
	return o.won.Times(win).Plus(o.halved.Times(half)).Plus(o.lost.Times(loss))
}

// with returns odds with a further chance to win, to halve or to lose, as a lead is above 0, 0 or below.
func (o odds) with(chance card.Fraction, lead int) odds {
	switch {
	case lead > 0:
		o.won = o.won.Plus(chance)
	case lead == 0:
		o.halved = o.halved.Plus(chance)
	default:
		o.lost = o.lost.Plus(chance)
	}
	return o
}

// write returns odds in a unit that 1 has so often as texts, unless a number is too large.
func (o odds) write(one card.Fraction) (Odds, api.Errno) {
	l, e := writeEach(eachOf(o.numbers(), func(_ int, x card.Fraction) card.Fraction { return x.Over(one) }))
	if e != api.OK {
		return Odds{}, e
	}
	return Odds{l[0], l[1], l[2]}, api.OK
}

// Contest returns the odds of a hole for two tables of strokes.
func Contest(a, b []api.Chance) (Odds, api.Errno) {
	if e := firstError(card.CheckChances(a), card.CheckChances(b)); e != api.OK {
		return Odds{}, e
	}
	x, y := weights(a), weights(b)
	var o odds
	for i, own := range a {
		for j, other := range b {
			// The lesser number of strokes wins.
			o = o.with(x.times[i].Times(y.times[j]), cmp.Compare(other.Value, own.Value))
		}
	}
	return o.write(x.one.Times(y.one))
}

// weights returns the weights of chances without an error.
func weights(l []api.Chance) counted {
	return count(eachOf(l, func(_ int, c api.Chance) card.Fraction {
		weight, _ := card.Read(c.Weight)
		return weight
	}))
}

// readList returns the odds of holes, or their first error.
func readList(l []Odds) ([]odds, api.Errno) {
	if len(l) > api.MaxHoles {
		return nil, api.ErrMany
	}
	return readEach(l, readOdds)
}

// leads returns the chances of leads behind holes in a unit, and how often 1 has it.
func leads(l []odds) (map[int]card.Fraction, card.Fraction) {
	one := card.Integer(1)
	chances := map[int]card.Fraction{0: one}
	for i, o := range l {
		own := units(o.numbers()...)
		o, one = o.times(own), one.Times(own)
		next := map[int]card.Fraction{}
		for lead := -i - 1; lead <= i+1; lead++ {
			next[lead] = o.mean(chances[lead-1], chances[lead], chances[lead+1])
		}
		chances = next
	}
	return chances, one
}

// Lead returns the chances of leads behind some holes.
func Lead(l []Odds) ([]api.Chance, api.Errno) {
	holes, e := readList(l)
	if e != api.OK {
		return nil, e
	}
	chances, one := leads(holes)
	var table []api.Chance
	for lead := -len(holes); lead <= len(holes); lead++ {
		if !isGreater(chances[lead], card.Fraction{}) {
			continue
		}
		weight, e := chances[lead].Over(one).Rat()
		if e != api.OK {
			return nil, e
		}
		table = append(table, api.Chance{Value: lead, Weight: weight})
	}
	return table, api.OK
}

// Match returns the odds of a match.
func Match(l []Odds, lead int) (Odds, api.Errno) {
	holes, e := readList(l)
	if e = firstError(e, checkLead(lead)); e != api.OK {
		return Odds{}, e
	}
	chances, one := leads(holes)
	var o odds
	for more := -len(holes); more <= len(holes); more++ {
		o = o.with(chances[more], lead+more)
	}
	return o.write(one)
}
