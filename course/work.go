package course

import (
	"slices"

	"niblick/api"
)

// mostLeast is the greatest number of days between two jobs, without its sign.
const mostLeast = 10000

func checkRules(jobs int, l []Rule) api.Errno {
	if e := first(within(jobs, 1, MaxJobs), unless(len(l) <= api.MaxList, api.ErrMany)); e != api.OK {
		return e
	}
	for _, rule := range l {
		e := first(
			unless(isIndex(rule.From, jobs) && isIndex(rule.To, jobs), api.ErrUnknown),
			within(rule.Least, -mostLeast, mostLeast))
		if e != api.OK {
			return e
		}
	}
	return api.OK
}

func isIndex(n, length int) bool {
	return 0 <= n && n < length
}

// Earliest returns the least days of jobs.
func Earliest(jobs int, l []Rule) ([]int, api.Errno) {
	if e := checkRules(jobs, l); e != api.OK {
		return nil, e
	}
	p := planOf(jobs, l)
	if p.endless {
		return nil, api.ErrInfeasible
	}
	return p.days, api.OK
}

// plan has days of jobs, and the numbers of the conditions that made them as late as they are.
type plan struct {
	days    []int
	causes  map[int]int
	last    int  // the job that was delayed last
	endless bool // whether jobs could be delayed for ever
}

// planOf delays jobs from day 0 on until all conditions hold. Chains of conditions that name no job twice have had their effect before the last round, so a delay in it comes from a cycle.
func planOf(jobs int, l []Rule) plan {
	p := plan{days: make([]int, jobs), causes: map[int]int{}}
	for range jobs {
		p.endless = false
		for number, rule := range l {
			if day := p.days[rule.From] + rule.Least; day > p.days[rule.To] {
				p.days[rule.To], p.causes[rule.To], p.last = day, number, rule.To
				p.endless = true
			}
		}
	}
	return p
}

// Conflict returns a cycle of conditions that is a contradiction.
func Conflict(jobs int, l []Rule) ([]int, api.Errno) {
	if e := checkRules(jobs, l); e != api.OK {
		return nil, e
	}
	p := planOf(jobs, l)
	if !p.endless {
		return nil, api.ErrNone
	}
	// Back from the last delay, the causes lead into a cycle after fewer steps than there are jobs.
	job := p.last
	for range jobs {
		job = l[p.causes[job]].From
	}
	var cycle []int
	for on := job; len(cycle) == 0 || on != job; on = l[p.causes[on]].From {
		cycle = append(cycle, p.causes[on])
	}
	slices.Reverse(cycle)
	return cycle, api.OK
}

// CheckConflict returns OK for a contradiction.
func CheckConflict(jobs int, l []Rule, cycle []int) api.Errno {
	e := first(
		checkRules(jobs, l),
		unless(len(cycle) > 0, api.ErrEmpty),
		unless(len(cycle) <= api.MaxList, api.ErrMany),
		unless(!slices.ContainsFunc(cycle, func(n int) bool { return !isIndex(n, len(l)) }), api.ErrUnknown))
	if e != api.OK {
		return e
	}
	sum, at := 0, l[cycle[len(cycle)-1]].To
	for _, n := range cycle {
		if l[n].From != at {
			return api.ErrProof
		}
		sum, at = sum+l[n].Least, l[n].To
	}
	return unless(sum > 0, api.ErrProof)
}

// Rotation returns the hole positions of some days.
func Rotation(l []api.Place, radius, days int) ([]int, api.Errno) {
	e := first(checkPositions(l), within(radius, 0, api.MaxPlace), within(days, 0, MaxDays))
	if e != api.OK {
		return nil, e
	}
	var used []int
	wear := make([]int, len(l))
	for range days {
		least := slices.Index(wear, slices.Min(wear))
		used = append(used, least)
		for i, p := range l {
			if squareOf(p, l[least]) <= radius*radius {
				wear[i]++
			}
		}
	}
	return used, api.OK
}

func checkPositions(l []api.Place) api.Errno {
	if e := first(unless(len(l) > 0, api.ErrEmpty), unless(len(l) <= MaxLine, api.ErrMany)); e != api.OK {
		return e
	}
	for i, p := range l {
		if e := first(checkPlaces(p), unless(!slices.Contains(l[:i], p), api.ErrTwice)); e != api.OK {
			return e
		}
	}
	return api.OK
}

// Rounds returns the rounds in which stations are watered.
func Rounds(flows []int, limit int) ([]int, api.Errno) {
	if e := checkFlows(flows, limit); e != api.OK {
		return nil, e
	}
	for count := 1; ; count++ {
		if rounds, ok := watered(flows, slices.Repeat([]int{limit}, count)); ok {
			return rounds, api.OK
		}
	}
}

func checkFlows(flows []int, limit int) api.Errno {
	e := first(
		unless(len(flows) > 0, api.ErrEmpty),
		unless(len(flows) <= api.MaxExact, api.ErrLimit),
		within(limit, 1, api.MaxNumber))
	if e != api.OK {
		return e
	}
	for _, flow := range flows {
		if e := within(flow, 1, limit); e != api.OK {
			return e
		}
	}
	return api.OK
}

// watered returns the lexicographically first rounds for the flows, where each round has so much left.
func watered(flows, left []int) ([]int, bool) {
	if len(flows) == 0 {
		return nil, true
	}
	for round := range left {
		if flows[0] > left[round] {
			continue
		}
		left[round] -= flows[0]
		others, ok := watered(flows[1:], left)
		left[round] += flows[0]
		if ok {
			return append([]int{round}, others...), true
		}
	}
	return nil, false
}
