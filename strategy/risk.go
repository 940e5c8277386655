package strategy

import (
	"niblick/api"
	"niblick/card"
)

// choices are the odds of which one is chosen for a hole, in a unit that 1 has so often.
type choices struct {
	one  card.Fraction
	odds []odds
}

// readChoices returns the choices for a hole, or their first error.
func readChoices(l []Odds) (choices, api.Errno) {
	if e := firstError(unless(len(l) > 0, api.ErrEmpty), unless(len(l) <= MaxClubs, api.ErrMany)); e != api.OK {
		return choices{}, e
	}
	all, e := readEach(l, readOdds)
	if e != api.OK {
		return choices{}, e
	}
	var numbers []card.Fraction
	for _, o := range all {
		numbers = append(numbers, o.numbers()...)
	}
	one := units(numbers...)
	return choices{one, eachOf(all, func(_ int, o odds) odds { return o.times(one) })}, api.OK
}

// Risk returns the greatest value of a match with a choice for each hole, and the first best choice for the next one.
func Risk(l [][]Odds, lead int) (api.Rat, int, api.Errno) {
	if len(l) > api.MaxHoles {
		return "", 0, api.ErrMany
	}
	holes, e := readEach(l, readChoices)
	if e = firstError(e, checkLead(lead)); e != api.OK {
		return "", 0, e
	}
	// A win is 2 halves.
	one := card.Integer(2)
	for _, c := range holes {
		one = one.Times(c.one)
	}
	b := chosen(holes, lead)
	value, e := b.value.Over(one).Rat()
	if e != api.OK {
		return "", 0, e
	}
	return value, b.choice, api.OK
}

// position is a hole before which a match has a lead.
type position struct {
	hole, lead int
}

// best is the greatest value of a match in halves of the units of all holes that are left, and the first choice with which it is reached.
type best struct {
	value  card.Fraction
	choice int
}

// chosen returns the best for a match with all holes left.
func chosen(holes []choices, lead int) best {
	known := map[position]best{}
	var search func(at position) best
	search = func(at position) best {
		if at.hole == len(holes) {
			return best{atEnd(at.lead), -1}
		}
		if b, is := known[at]; is {
			return b
		}
		after := func(change int) card.Fraction { return search(position{at.hole + 1, at.lead + change}).value }
		values := eachOf(holes[at.hole].odds, func(_ int, o odds) card.Fraction {
			return o.mean(after(1), after(0), after(-1))
		})
		choice := firstBest(values, isGreater)
		known[at] = best{values[choice], choice}
		return known[at]
	}
	return search(position{0, lead})
}

// atEnd returns how many halves a match is worth that ends with a lead.
func atEnd(lead int) card.Fraction {
	switch {
	case lead > 0:
		return card.Integer(2)
	case lead == 0:
		return card.Integer(1)
	}
	return card.Integer(0)
}
