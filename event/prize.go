package event

import (
	"cmp"
	"slices"

	"niblick/api"
	"niblick/card"
)

// Purse divides prize money among places.
func Purse(total int, weights []int) ([]int, api.Errno) {
	shares, e := card.Shares(total, weights)
	descending := slices.IsSortedFunc(weights, func(a, b int) int { return cmp.Compare(b, a) })
	if e := first(e, unless(descending, api.ErrOrder)); e != api.OK {
		return nil, e
	}
	return shares, api.OK
}

// Prizes returns the prize of each line.
func Prizes(l []Line, purse []int) ([]int, api.Errno) {
	if e := first(CheckField(l), checkPurse(purse)); e != api.OK {
		return nil, e
	}
	return prizes(l, purse), api.OK
}

// isPaid reports whether a line can have a prize.
func (line Line) isPaid() bool {
	return line.isRanked() && !line.Amateur
}

func prizes(l []Line, purse []int) []int {
	won := make([]int, len(l))
	for places := placesOf(l, Line.isPaid); len(places) > 0; {
		rank := places[0].Rank
		tied := slices.IndexFunc(places, func(p Place) bool { return p.Rank > rank })
		if tied < 0 {
			tied = len(places)
		}
		from, to := min(rank-1, len(purse)), min(rank-1+tied, len(purse))
		shares := evenly(sumOf(purse[from:to]), tied)
		for i, p := range places[:tied] {
			won[p.Line] = shares[i]
		}
		places = places[tied:]
	}
	return won
}

// evenly returns the shares of a sum by equal weights. A standing can have more lines with one rank than card.Shares takes weights.
func evenly(sum, parts int) []int {
	shares := make([]int, parts)
	for i := range shares {
		shares[i] = sum / parts
		if i < sum%parts {
			shares[i]++
		}
	}
	return shares
}
