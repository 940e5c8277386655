package sheet

import (
	"cmp"
	"math"
	"slices"

	"niblick/api"
)

// Proof returns prices that prove the greatest value.
func Proof(l []Slot, r []Request) (Prices, api.Errno) {
	best, e := Best(l, r)
	if e != api.OK {
		return Prices{}, e
	}
	// If slots have the price that a further place would be worth, the best assignment leaves each request as much as any slot could, and free places cost nothing: so all prices together are its value.
	slots := eachOf(l, func(j int, _ Slot) int {
		further := slices.Clone(l)
		further[j].Places++
		_, value, _ := solve(further, r)
		return value - best
	})
	requests := eachOf(r, func(_ int, q Request) int { return q.price(slots) })
	return Prices{Requests: requests, Slots: slots}, api.OK
}

// price returns the least price of a request beside these prices of slots. A guaranteed request, whose price may be below 0, has a wish if it can be served.
func (q Request) price(slots []int) int {
	price := 0
	if q.Guaranteed {
		price = math.MinInt
	}
	for slot, weight := range q.wishes() {
		price = max(price, weight-slots[slot])
	}
	return price
}

// CheckProof returns OK for prices that prove a value.
func CheckProof(l []Slot, r []Request, value int, p Prices) api.Errno {
	if e := firstError(CheckRequests(l, r), checkPrices(l, r, value, p)); e != api.OK {
		return e
	}
	sum := sumOf(p.Requests)
	for j, s := range l {
		sum += p.Slots[j] * s.Places
	}
	return firstError(
		checkEach(p.Slots, func(_, price int) api.Errno { return unless(price >= 0, api.ErrProof) }),
		checkEach(r, func(i int, q Request) api.Errno { return unless(p.cover(i, q), api.ErrProof) }),
		unless(sum == value, api.ErrProof))
}

// cover reports whether the price of a request is as great as it has to be.
func (p Prices) cover(i int, q Request) bool {
	if !q.Guaranteed && p.Requests[i] < 0 {
		return false
	}
	for slot, weight := range q.wishes() {
		if p.Requests[i]+p.Slots[slot] < weight {
			return false
		}
	}
	return true
}

// Excluded returns the smallest set of guaranteed requests that excludes itself.
func Excluded(l []Slot, r []Request) ([]int, api.Errno) {
	if e := CheckRequests(l, r); e != api.OK {
		return nil, e
	}
	var sure []int
	for i, q := range r {
		if q.Guaranteed {
			sure = append(sure, i)
		}
	}
	if len(sure) > MaxSure {
		return nil, api.ErrLimit
	}
	var least []int
	for bits := range 1 << len(sure) {
		set := chosen(sure, bits)
		if excludes(l, r, set) && (least == nil || isBefore(set, least)) {
			least = set
		}
	}
	return least, unless(least != nil, api.ErrNone)
}

// chosen returns the numbers whose bits are set.
func chosen(numbers []int, bits int) []int {
	var set []int
	for i, n := range numbers {
		if bits>>i&1 == 1 {
			set = append(set, n)
		}
	}
	return set
}

// excludes reports whether a set of requests has more elements than there are places that one of them wishes for.
func excludes(l []Slot, r []Request, set []int) bool {
	var wished [MaxSlots]bool
	places := 0
	for _, i := range set {
		for slot := range r[i].wishes() {
			if !wished[slot] {
				wished[slot] = true
				places += l[slot].Places
			}
		}
	}
	return places < len(set)
}

// isBefore reports whether a set has fewer numbers than another one, or as many and comes first.
func isBefore(a, b []int) bool {
	return cmp.Or(cmp.Compare(len(a), len(b)), slices.Compare(a, b)) < 0
}
