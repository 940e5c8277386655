package event

import (
	"slices"

	"niblick/api"
	"niblick/card"
)

// The numbers by which a ballot draws.
const (
	factor  = 48271
	modulus = 2147483647
)

// The rules by which entries that are not exempt are accepted.
const (
	byBallot = "ballot"
	byIndex  = "index"
)

// Ballot returns an order of n elements by a key.
func Ballot(n, key int) ([]int, api.Errno) {
	if e := first(within(n, 0, api.MaxPlayers), checkKey(key)); e != api.OK {
		return nil, e
	}
	return ballot(n, key), api.OK
}

func ballot(n, key int) []int {
	order := numbers(n, func(int) bool { return true })
	x := key
	for i := n - 1; i >= 1; i-- {
		x = factor * x % modulus
		j := x % (i + 1)
		order[i], order[j] = order[j], order[i]
	}
	return order
}

// Accept returns the entries that are accepted, and the reserves, in their order.
func Accept(l []Entry, places int, rule string, key int) ([]int, []int, api.Errno) {
	e := first(
		CheckEntries(l),
		checkPlaces(places),
		unless(rule == byBallot || rule == byIndex, api.ErrKind),
		checkKey(key))
	if e != api.OK {
		return nil, nil, e
	}
	order := ordered(l, rule, key)
	places = min(places, len(order))
	// The third index keeps what is appended to the accepted entries from the reserves.
	return order[:places:places], order[places:], api.OK
}

// ordered returns the numbers of entries in their order by a rule.
func ordered(l []Entry, rule string, key int) []int {
	exempt := numbers(len(l), func(i int) bool { return l[i].Exempt })
	others := numbers(len(l), func(i int) bool { return !l[i].Exempt })
	drawn := eachOf(ballot(len(others), key), func(i int) int { return others[i] })
	if rule == byIndex {
		sortByIndex(l, drawn)
	}
	return slices.Concat(exempt, drawn)
}

// sortByIndex sorts numbers of entries by their indices; equal ones stay in their order.
func sortByIndex(l []Entry, order []int) {
	indices := eachOf(l, func(x Entry) card.Fraction {
		index, _ := card.Read(x.Index)
		return index
	})
	slices.SortStableFunc(order, func(i, j int) int { return indices[i].Compare(indices[j]) })
}

// Strength returns the order of entries by their indices.
func Strength(l []Entry) ([]int, api.Errno) {
	if e := CheckEntries(l); e != api.OK {
		return nil, e
	}
	order := numbers(len(l), func(int) bool { return true })
	sortByIndex(l, order)
	return order, api.OK
}

// Substitute puts reserves into the places of those who do not play.
func Substitute(in, reserves, gone []int) ([]int, []int, api.Errno) {
	if e := checkSubstitutes(in, reserves, gone); e != api.OK {
		return nil, nil, e
	}
	here := func(l []int) []int {
		return slices.DeleteFunc(slices.Clone(l), func(n int) bool { return slices.Contains(gone, n) })
	}
	play, wait := here(in), here(reserves)
	free := min(len(in)-len(play), len(wait))
	return slices.Concat(play, wait[:free]), wait[free:], api.OK
}

// Qualify returns who is in by a total, who is tied for the last places, and how many of these there are.
func Qualify(totals []int, places int) ([]int, []int, int, api.Errno) {
	if e := first(checkTotals(totals), checkPlaces(places)); e != api.OK {
		return nil, nil, 0, e
	}
	in, tied, left := qualify(totals, places)
	return in, tied, left, api.OK
}

func qualify(totals []int, places int) (in, tied []int, left int) {
	if len(totals) <= places {
		return numbers(len(totals), func(int) bool { return true }), nil, 0
	}
	// Whoever is better than the first one without a place is in whatever ties decide.
	without := slices.Sorted(slices.Values(totals))[places]
	in = numbers(len(totals), func(i int) bool { return totals[i] < without })
	left = places - len(in)
	if left > 0 {
		tied = numbers(len(totals), func(i int) bool { return totals[i] == without })
	}
	return in, tied, left
}
