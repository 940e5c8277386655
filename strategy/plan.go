package strategy

import (
	"slices"

	"niblick/api"
)

// spread returns a set that has some places, and each state that joins them as it is so far.
func (p Process) spread(from []int, joins func(state int, places map[int]bool) bool) map[int]bool {
	places := map[int]bool{}
	for _, place := range from {
		places[place] = true
	}
search:
	for {
		for i := range p.States {
			if !places[i] && joins(i, places) {
				places[i] = true
				continue search
			}
		}
		return places
	}
}

// outside returns the states that are not in a set.
func (p Process) outside(places map[int]bool) []int {
	var l []int
	for i := range p.States {
		if !places[i] {
			l = append(l, i)
		}
	}
	return l
}

// leads reports whether a stroke with a club may lead into a set.
func (c Club) leads(places map[int]bool) bool {
	return slices.ContainsFunc(c.Moves, func(m Move) bool { return places[m.To] })
}

// Endless returns the states in which some plan can stay for ever.
func Endless(p Process) ([]int, api.Errno) {
	if e := CheckProcess(p); e != api.OK {
		return nil, e
	}
	// A state is not endless as soon as each of its clubs may lead out of those that are left.
	out := p.spread([]int{holed}, func(state int, places map[int]bool) bool {
		return !slices.ContainsFunc(p.States[state].Clubs, func(c Club) bool { return !c.leads(places) })
	})
	return p.outside(out), api.OK
}

// Ends returns the states from which a plan ends with certainty.
func Ends(p Process, plan []int) ([]int, api.Errno) {
	if e := CheckPlan(p, plan); e != api.OK {
		return nil, e
	}
	return p.ends(plan), api.OK
}

func (p Process) ends(plan []int) []int {
	planned := func(state int, places map[int]bool) bool { return p.States[state].Clubs[plan[state]].leads(places) }
	home := p.spread([]int{holed}, planned)
	return p.outside(p.spread(p.outside(home), planned))
}

// ending returns a plan that ends from all states, unless there is none.
func (p Process) ending() ([]int, api.Errno) {
	plan := make([]int, len(p.States))
	home := p.spread([]int{holed}, func(state int, places map[int]bool) bool {
		plan[state] = slices.IndexFunc(p.States[state].Clubs, func(c Club) bool { return c.leads(places) })
		return plan[state] >= 0
	})
	return plan, unless(len(p.outside(home)) == 0, api.ErrOpen)
}
