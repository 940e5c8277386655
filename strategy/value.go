package strategy

import (
	"slices"
	"strconv"

	"niblick/api"
	"niblick/card"
)

// Values returns the mean numbers of strokes of a plan.
func Values(p Process, plan []int) ([]api.Rat, api.Errno) {
	if e := CheckPlan(p, plan); e != api.OK {
		return nil, e
	}
	if len(p.ends(plan)) < len(p.States) {
		return nil, api.ErrOpen
	}
	return p.values(plan)
}

// values solves the equations that say that the values of a plan that ends are their own means.
func (p Process) values(plan []int) ([]api.Rat, api.Errno) {
	var left [][]api.Rat
	var right []api.Rat
	for i, s := range p.States {
		factors, strokes := p.equation(i, s.Clubs[plan[i]])
		left, right = append(left, factors), append(right, strokes)
	}
	return card.Solve(left, right)
}

// equation returns what the value of a state satisfies if it is the mean after a club: the factors of all values, and the number that their sum is, both times the scale.
func (p Process) equation(state int, c Club) ([]api.Rat, api.Rat) {
	strokes, factors := 0, make([]int, len(p.States))
	factors[state] = scale
	for m, parts := range c.moves() {
		strokes += parts * m.strokes()
		if m.To != holed {
			factors[m.To] -= parts
		}
	}
	return eachOf(factors, func(_, n int) api.Rat { return integer(n) }), integer(strokes)
}

func integer(n int) api.Rat {
	return api.Rat(strconv.Itoa(n))
}

// readValues returns values of the states of a process, or the first error of both.
func readValues(p Process, values []api.Rat) ([]card.Fraction, api.Errno) {
	if e := firstError(CheckProcess(p), paired(values, p.States)); e != api.OK {
		return nil, e
	}
	return readEach(values, card.Read)
}

// valueAt returns the value of the place where a stroke leads.
func valueAt(values []card.Fraction, to int) card.Fraction {
	if to == holed {
		return card.Fraction{}
	}
	return values[to]
}

// mean returns the mean after a club in the unit of the values, times the scale.
func (c Club) mean(values counted) card.Fraction {
	var sum card.Fraction
	for m, parts := range c.moves() {
		after := valueAt(values.times, m.To).Plus(values.one.Times(card.Integer(m.strokes())))
		sum = sum.Plus(after.Times(card.Integer(parts)))
	}
	return sum
}

// Mean returns the mean number of strokes if a club is used, and then some values hold.
func Mean(p Process, values []api.Rat, state, club int) (api.Rat, api.Errno) {
	numbers, e := readValues(p, values)
	if e = firstError(e, known(state, p.States)); e != api.OK {
		return "", e
	}
	clubs := p.States[state].Clubs
	if e := known(club, clubs); e != api.OK {
		return "", e
	}
	v := count(numbers)
	return clubs[club].mean(v).Over(v.one.Times(card.Integer(scale))).Rat()
}

// best returns the first club of a state with the least mean, and this mean in the unit of the values, times the scale.
func (s State) best(values counted) (int, card.Fraction) {
	means := eachOf(s.Clubs, func(_ int, c Club) card.Fraction { return c.mean(values) })
	club := firstBest(means, isLess)
	return club, means[club]
}

// Greedy returns the best clubs for some values.
func Greedy(p Process, values []api.Rat) ([]int, api.Errno) {
	numbers, e := readValues(p, values)
	if e != api.OK {
		return nil, e
	}
	return p.greedy(numbers), api.OK
}

func (p Process) greedy(values []card.Fraction) []int {
	v := count(values)
	return eachOf(p.States, func(_ int, s State) int {
		club, _ := s.best(v)
		return club
	})
}

// Best returns the least mean numbers of strokes, and the first best clubs.
func Best(p Process) ([]api.Rat, []int, api.Errno) {
	if e := CheckProcess(p); e != api.OK {
		return nil, nil, e
	}
	plan, e := p.ending()
	if e != api.OK {
		return nil, nil, e
	}
	plan = settled(plan, p.improved)
	values, e := p.values(plan)
	if e != api.OK {
		return nil, nil, e
	}
	return values, plan, api.OK
}

// improved returns the best clubs for the values of a plan that ends. The plan of these clubs ends, too: each stroke takes at least 1, so a plan without an end would have no mean that is as low. Its values are less somewhere, unless those of the plan are the least ones.
func (p Process) improved(plan []int) []int {
	// The numbers of so few equations never have too many digits.
	values, _ := p.values(plan)
	numbers, _ := readEach(values, card.Read)
	return p.greedy(numbers)
}

// settled returns what becomes of a list, step by step, when it does not change any more.
func settled(l []int, next func(l []int) []int) []int {
	for {
		after := next(l)
		if slices.Equal(after, l) {
			return l
		}
		l = after
	}
}

// CheckBest returns OK for the least mean numbers of strokes.
func CheckBest(p Process, values []api.Rat) api.Errno {
	numbers, e := readValues(p, values)
	if e != api.OK {
		return e
	}
	v := count(numbers)
	return checkEach(p.States, func(i int, s State) api.Errno {
		_, least := s.best(v)
		return unless(least.Compare(v.times[i].Times(card.Integer(scale))) == 0, api.ErrProof)
	})
}
