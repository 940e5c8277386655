package strategy_test

import (
	"maps"
	"math/big"
	"slices"

	"niblick/api"
	"niblick/strategy"
)

// Slow functions that follow the definitions of the chapter word by word, for arguments without errors.

// slowEndless looks at all sets of states and returns the greatest one each of whose states has a club all of whose moves lead to states of the set. Sets that have this property have it together.
func slowEndless(p strategy.Process) []int {
	greatest := 0
	for set := range 1 << len(p.States) {
		stays := true
		for i, s := range p.States {
			stays = stays && (set>>i&1 == 0 || slices.ContainsFunc(s.Clubs, func(c strategy.Club) bool {
				return !slices.ContainsFunc(c.Moves, func(m strategy.Move) bool { return m.To < 0 || set>>m.To&1 == 0 })
			}))
		}
		if stays {
			greatest |= set
		}
	}
	var l []int
	for i := range p.States {
		if greatest>>i&1 == 1 {
			l = append(l, i)
		}
	}
	return l
}

// slowReached returns all places that can be reached from a place by strokes of a plan, this one included.
func slowReached(p strategy.Process, plan []int, from int) []int {
	places := []int{from}
	for i := 0; i < len(places); i++ {
		if places[i] < 0 {
			continue
		}
		for _, m := range p.States[places[i]].Clubs[plan[places[i]]].Moves {
			if !slices.Contains(places, m.To) {
				places = append(places, m.To)
			}
		}
	}
	return places
}

func slowEnds(p strategy.Process, plan []int) []int {
	var l []int
	for i := range p.States {
		lost := slices.ContainsFunc(slowReached(p, plan, i), func(place int) bool {
			return !slices.Contains(slowReached(p, plan, place), -1)
		})
		if !lost {
			l = append(l, i)
		}
	}
	return l
}

// slowMean returns the mean after a club.
func slowMean(c strategy.Club, values []*big.Rat) *big.Rat {
	sum := new(big.Rat)
	for _, m := range c.Moves {
		after := big.NewRat(int64(1+m.Penalty), 1)
		if m.To >= 0 {
			after.Add(after, values[m.To])
		}
		sum.Add(sum, after.Mul(after, bigOf(m.Chance)))
	}
	return sum
}

// slowValues solves the equations of a plan that ends from all states by replacing one value after another by what it is of the others.
func slowValues(p strategy.Process, plan []int) []*big.Rat {
	n := len(p.States)
	// A row has the factors of all values, and a number.
	rows := make([][]*big.Rat, n)
	for i, s := range p.States {
		for range n + 1 {
			rows[i] = append(rows[i], new(big.Rat))
		}
		for _, m := range s.Clubs[plan[i]].Moves {
			chance := bigOf(m.Chance)
			if m.To >= 0 {
				rows[i][m.To].Add(rows[i][m.To], chance)
			}
			rows[i][n].Add(rows[i][n], chance.Mul(chance, big.NewRat(int64(1+m.Penalty), 1)))
		}
	}
	for i, row := range rows {
		rest := new(big.Rat).Sub(big.NewRat(1, 1), row[i])
		row[i] = new(big.Rat)
		for k := range row {
			row[k] = new(big.Rat).Quo(row[k], rest)
		}
		for k, other := range rows {
			factor := new(big.Rat).Set(other[i])
			if k == i {
				continue
			}
			other[i].SetInt64(0)
			for j := range other {
				other[j].Add(other[j], new(big.Rat).Mul(factor, row[j]))
			}
		}
	}
	var values []*big.Rat
	for _, row := range rows {
		values = append(values, row[n])
	}
	return values
}

// plans visits all plans of a process.
func plans(p strategy.Process, visit func(plan []int)) {
	var choose func(plan []int)
	choose = func(plan []int) {
		if len(plan) == len(p.States) {
			visit(plan)
			return
		}
		for club := range p.States[len(plan)].Clubs {
			choose(append(slices.Clone(plan), club))
		}
	}
	choose(nil)
}

// slowGreedy returns the first club with the least mean for each state.
func slowGreedy(p strategy.Process, values []*big.Rat) []int {
	var l []int
	for _, s := range p.States {
		best := 0
		for k, c := range s.Clubs {
			if slowMean(c, values).Cmp(slowMean(s.Clubs[best], values)) < 0 {
				best = k
			}
		}
		l = append(l, best)
	}
	return l
}

// slowBest returns the least values of all plans that end from all states, or none.
func slowBest(p strategy.Process) []*big.Rat {
	var least []*big.Rat
	plans(p, func(plan []int) {
		if len(slowEnds(p, plan)) < len(p.States) {
			return
		}
		values := slowValues(p, plan)
		if least == nil {
			least = values
		}
		for i, x := range values {
			if x.Cmp(least[i]) < 0 {
				least[i] = x
			}
		}
	})
	return least
}

// slowScore returns the chance that a plan takes so many strokes from a place to the hole.
func slowScore(p strategy.Process, plan []int, place, strokes int) *big.Rat {
	sum := new(big.Rat)
	switch {
	case strokes < 0 || place < 0 && strokes > 0:
	case place < 0:
		sum.SetInt64(1)
	default:
		for _, m := range p.States[place].Clubs[plan[place]].Moves {
			chance := slowScore(p, plan, m.To, strokes-1-m.Penalty)
			sum.Add(sum, chance.Mul(chance, bigOf(m.Chance)))
		}
	}
	return sum
}

// counts are chances of what is won, halved and lost.
type counts struct{ won, halved, lost *big.Rat }

func noCounts() counts {
	return counts{new(big.Rat), new(big.Rat), new(big.Rat)}
}

func (c counts) odds() strategy.Odds {
	return strategy.Odds{Won: ratOf(c.won), Halved: ratOf(c.halved), Lost: ratOf(c.lost)}
}

func slowContest(a, b []api.Chance) counts {
	c := noCounts()
	for _, x := range a {
		for _, y := range b {
			chance := new(big.Rat).Mul(bigOf(x.Weight), bigOf(y.Weight))
			switch {
			case x.Value < y.Value:
				c.won.Add(c.won, chance)
			case x.Value == y.Value:
				c.halved.Add(c.halved, chance)
			case x.Value > y.Value:
				c.lost.Add(c.lost, chance)
			}
		}
	}
	return c
}

// outcomes visits all ways in which holes can be won, halved and lost.
func outcomes(l []strategy.Odds, visit func(lead int, chance *big.Rat)) {
	var play func(hole, lead int, chance *big.Rat)
	play = func(hole, lead int, chance *big.Rat) {
		if hole == len(l) {
			visit(lead, chance)
			return
		}
		for change, x := range map[int]api.Rat{1: l[hole].Won, 0: l[hole].Halved, -1: l[hole].Lost} {
			play(hole+1, lead+change, new(big.Rat).Mul(chance, bigOf(x)))
		}
	}
	play(0, 0, big.NewRat(1, 1))
}

func slowLead(l []strategy.Odds) []api.Chance {
	sums := map[int]*big.Rat{}
	outcomes(l, func(lead int, chance *big.Rat) {
		if sums[lead] == nil {
			sums[lead] = new(big.Rat)
		}
		sums[lead].Add(sums[lead], chance)
	})
	var table []api.Chance
	for _, lead := range slices.Sorted(maps.Keys(sums)) {
		if sums[lead].Sign() != 0 {
			table = append(table, api.Chance{Value: lead, Weight: ratOf(sums[lead])})
		}
	}
	return table
}

func slowMatch(l []strategy.Odds, lead int) counts {
	c := noCounts()
	outcomes(l, func(more int, chance *big.Rat) {
		switch {
		case lead+more > 0:
			c.won.Add(c.won, chance)
		case lead+more == 0:
			c.halved.Add(c.halved, chance)
		default:
			c.lost.Add(c.lost, chance)
		}
	})
	return c
}

// valueOf returns the value of a match.
func (c counts) value() *big.Rat {
	half := new(big.Rat).Mul(c.halved, big.NewRat(1, 2))
	return half.Add(half, c.won)
}

// situation is a hole before which a match has a lead.
type situation struct{ hole, lead int }

// slowStrategies visits all ways to choose odds by holes and leads: a list of what is chosen in all situations that there can be.
func slowStrategies(l [][]strategy.Odds, lead int, visit func(chosen map[situation]int)) {
	var all []situation
	for hole := range l {
		for d := -hole; d <= hole; d++ {
			all = append(all, situation{hole, lead + d})
		}
	}
	chosen := map[situation]int{}
	var choose func(i int)
	choose = func(i int) {
		if i == len(all) {
			visit(chosen)
			return
		}
		for choice := range l[all[i].hole] {
			chosen[all[i]] = choice
			choose(i + 1)
		}
	}
	choose(0)
}

// slowStrategyValue returns the value of a match if what is chosen is known.
func slowStrategyValue(l [][]strategy.Odds, lead int, chosen map[situation]int) *big.Rat {
	var play func(s situation) *big.Rat
	play = func(s situation) *big.Rat {
		if s.hole == len(l) {
			return slowMatch(nil, s.lead).value()
		}
		o := l[s.hole][chosen[s]]
		sum := new(big.Rat)
		for change, x := range map[int]api.Rat{1: o.Won, 0: o.Halved, -1: o.Lost} {
			after := play(situation{s.hole + 1, s.lead + change})
			sum.Add(sum, after.Mul(after, bigOf(x)))
		}
		return sum
	}
	return play(situation{0, lead})
}

// slowRisk tries all strategies; the choice is the first one of those for the next hole with the greatest value.
func slowRisk(l [][]strategy.Odds, lead int) risked {
	var greatest *big.Rat
	choice := -1
	slowStrategies(l, lead, func(chosen map[situation]int) {
		value := slowStrategyValue(l, lead, chosen)
		// Strategies with a lesser first choice come first.
		if greatest == nil || value.Cmp(greatest) > 0 {
			greatest = value
			if len(l) > 0 {
				choice = chosen[situation{0, lead}]
			}
		}
	})
	return risked{ratOf(greatest), choice}
}
