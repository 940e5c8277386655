package sheet

import (
	"slices"

	"niblick/api"
)

// bonus is what it is worth to serve a guaranteed request, beside the weight of its wish: more than all weights together. So the best assignment serves as many guaranteed requests as possible.
const bonus = MaxRequests*MaxWeight + 1

// seating is an assignment that is being made of one request after another.
type seating struct {
	requests   []Request
	worth      [MaxRequests][MaxSlots]int
	free       []int
	assignment []int
}

func newSeating(l []Slot, r []Request) *seating {
	s := &seating{
		requests:   r,
		free:       eachOf(l, func(_ int, slot Slot) int { return slot.Places }),
		assignment: eachOf(r, func(int, Request) int { return unserved }),
	}
	for i, q := range r {
		for slot, weight := range q.wishes() {
			s.worth[i][slot] = weight
			if q.Guaranteed {
				s.worth[i][slot] += bonus
			}
		}
	}
	return s
}

// reach is how a request comes to be without a slot: what the moves up to then gain, and the request that takes its place.
type reach struct {
	reached bool
	gain    int
	by      int
}

// reachFrom returns how each request can lose its slot with the greatest gain if a request is added. As those before it are seated in the best way, moves that come back to where they began gain nothing, and the search ends.
func (s *seating) reachFrom(added int) [MaxRequests]reach {
	var reached [MaxRequests]reach
	reached[added].reached = true
	for queue := []int{added}; len(queue) > 0; queue = queue[1:] {
		i := queue[0]
		for slot := range s.requests[i].wishes() {
			for k, own := range s.assignment {
				if own != slot {
					continue
				}
				gain := reached[i].gain + s.worth[i][slot] - s.worth[k][slot]
				if !reached[k].reached || gain > reached[k].gain {
					reached[k] = reach{true, gain, i}
					queue = append(queue, k)
				}
			}
		}
	}
	return reached
}

// add seats a request, or leaves it without a slot, in the best way. Others may have to move, and one may lose its slot.
func (s *seating) add(added int) {
	reached := s.reachFrom(added)
	last, slot, most := added, unserved, 0
	consider := func(i, at, gain int) {
		if gain > most {
			last, slot, most = i, at, gain
		}
	}
	for i := range s.requests {
		if !reached[i].reached {
			continue
		}
		consider(i, unserved, reached[i].gain)
		for at := range s.requests[i].wishes() {
			if s.free[at] > 0 {
				consider(i, at, reached[i].gain+s.worth[i][at])
			}
		}
	}
	if slot != unserved {
		s.free[slot]--
	}
	for last != added {
		s.assignment[last], slot = slot, s.assignment[last]
		last = reached[last].by
	}
	s.assignment[added] = slot
}

// solve returns an assignment with the greatest value, and this value.
func solve(l []Slot, r []Request) ([]int, int, api.Errno) {
	s := newSeating(l, r)
	for i := range r {
		s.add(i)
	}
	for i, q := range r {
		if q.Guaranteed && s.assignment[i] == unserved {
			return nil, 0, api.ErrInfeasible
		}
	}
	return s.assignment, valueOf(r, s.assignment), api.OK
}

// valueOf returns the value of an assignment.
func valueOf(r []Request, a []int) int {
	return sumOf(eachOf(r, func(i int, q Request) int { return q.weight(a[i]) }))
}

// CheckAssignment returns the value of an assignment, or its first error.
func CheckAssignment(l []Slot, r []Request, a []int) (int, api.Errno) {
	if e := checkAssignment(l, r, a); e != api.OK {
		return 0, e
	}
	return valueOf(r, a), api.OK
}

// Best returns the greatest value of an assignment.
func Best(l []Slot, r []Request) (int, api.Errno) {
	if e := CheckRequests(l, r); e != api.OK {
		return 0, e
	}
	_, value, e := solve(l, r)
	return value, e
}

// Assign returns an assignment with the greatest value.
func Assign(l []Slot, r []Request) ([]int, api.Errno) {
	if e := CheckRequests(l, r); e != api.OK {
		return nil, e
	}
	a, _, e := solve(l, r)
	return a, e
}

// First returns the lexicographically least assignment with the greatest value.
func First(l []Slot, r []Request) ([]int, api.Errno) {
	best, e := Best(l, r)
	if e != api.OK {
		return nil, e
	}
	fixed := slices.Clone(r)
	return eachOf(r, func(i int, q Request) int {
		for slot, weight := range q.wishes() {
			fixed[i] = Request{Guaranteed: true, Wishes: []Wish{{Slot: slot, Weight: weight}}}
			if _, value, e := solve(l, fixed); e == api.OK && value == best {
				return slot
			}
		}
		fixed[i] = Request{}
		return unserved
	}), api.OK
}

// Most returns the greatest number of requests that are served together.
func Most(l []Slot, r []Request) (int, api.Errno) {
	if e := CheckRequests(l, r); e != api.OK {
		return 0, e
	}
	// If each wish has the weight 1, the value is the number of those who are served.
	alike := eachOf(r, func(_ int, q Request) Request {
		return Request{Wishes: eachOf(q.Wishes, func(_ int, w Wish) Wish { return Wish{Slot: w.Slot, Weight: 1} })}
	})
	_, most, e := solve(l, alike)
	return most, e
}

// Withdraw returns the assignment behind a withdrawal.
func Withdraw(l []Slot, r []Request, a []int, i int) ([]int, api.Errno) {
	e := firstError(checkAssignment(l, r, a), unless(0 <= i && i < len(r), api.ErrUnknown))
	if e != api.OK {
		return nil, e
	}
	place := a[i]
	if place == unserved {
		return nil, api.ErrState
	}
	left := slices.Clone(a)
	left[i] = unserved
search:
	for k, q := range r {
		if k == i || left[k] != unserved {
			continue
		}
		for slot := range q.wishes() {
			if slot == place {
				left[k] = place
				break search
			}
		}
	}
	return left, api.OK
}
