package strategy

import (
	"niblick/api"
	"niblick/card"
)

// maxScore is the greatest number of strokes whose chance is asked for.
const maxScore = 60

// Gained returns the strokes gained by each stroke.
func Gained(p Process, values []api.Rat, l []Stroke) ([]api.Rat, api.Errno) {
	numbers, e := readValues(p, values)
	if e = firstError(e, p.checkStrokes(l)); e != api.OK {
		return nil, e
	}
	return writeEach(eachOf(l, func(_ int, s Stroke) card.Fraction {
		return numbers[s.From].Minus(valueAt(numbers, s.To)).Minus(card.Integer(s.strokes()))
	}))
}

// Scores returns the chances of the numbers of strokes up to a number.
func Scores(p Process, plan []int, state, most int) ([]api.Rat, api.Errno) {
	if e := firstError(CheckPlan(p, plan), known(state, p.States), within(most, 0, maxScore)); e != api.OK {
		return nil, e
	}
	return writeEach(eachOf(p.arrivals(plan, state, most), func(_ int, chances map[int]card.Fraction) card.Fraction {
		return chances[holed]
	}))
}

// arrivals returns, for each number of strokes, the chances of the places to which a plan comes with just as many.
func (p Process) arrivals(plan []int, state, most int) []map[int]card.Fraction {
	arrived := make([]map[int]card.Fraction, most+1)
	for n := range arrived {
		arrived[n] = map[int]card.Fraction{}
	}
	arrived[0][state] = card.Integer(1)
	for n, chances := range arrived {
		for i, s := range p.States {
			chance, comes := chances[i]
			if !comes {
				continue
			}
			part := chance.Over(card.Integer(scale))
			for m, parts := range s.Clubs[plan[i]].moves() {
				if after := n + m.strokes(); after <= most {
					arrived[after][m.To] = arrived[after][m.To].Plus(part.Times(card.Integer(parts)))
				}
			}
		}
	}
	return arrived
}
