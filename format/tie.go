package format

import (
	"cmp"
	"slices"

	"niblick/api"
)

// leastPlayoff is the least number of players of a play-off.
const leastPlayoff = 2

// Countback compares two lists.
func Countback(a, b []int) (int, api.Errno) {
	e := first(
		checkNumbers(a, api.MaxHoles),
		checkNumbers(b, api.MaxHoles),
		unless(len(a) == len(b), api.ErrShape))
	if e != api.OK {
		return 0, e
	}
	return countback(a, b), api.OK
}

// countback compares two lists of one length.
func countback(a, b []int) int {
	for _, last := range []int{len(a), 9, 6, 3, 1} {
		if last > len(a) {
			continue
		}
		from := len(a) - last
		if order := cmp.Compare(sumOf(a[from:], itself), sumOf(b[from:], itself)); order != 0 {
			return order
		}
	}
	return 0
}

// Ranks returns the ranks of lists.
func Ranks(l [][]int) ([]int, api.Errno) {
	e := first(
		sized(l, api.MaxPlayers),
		checkLists(l, func(numbers []int) api.Errno { return checkNumbers(numbers, api.MaxHoles) }))
	if e != api.OK {
		return nil, e
	}
	return ranks(l), api.OK
}

func ranks(l [][]int) []int {
	return eachOf(l, func(numbers []int) int {
		return 1 + sumOf(l, func(other []int) int {
			if countback(other, numbers) < 0 {
				return 1
			}
			return 0
		})
	})
}

// leader is the number of a player with a net score, and the rank.
type leader struct {
	player, rank int
}

// Leaders returns the players with a net score by their ranks.
func Leaders(f Field) ([]int, []int, api.Errno) {
	if e := CheckField(f); e != api.OK {
		return nil, nil, e
	}
	l := leaders(f)
	return eachOf(l, func(x leader) int { return x.player }), eachOf(l, func(x leader) int { return x.rank }), api.OK
}

func leaders(f Field) []leader {
	var l []leader
	var lists [][]int
	for player, p := range f.Players {
		if r := roundOf(f.Holes, p); r.isWhole() {
			l = append(l, leader{player: player})
			lists = append(lists, eachOf(r.nets, Net.strokes))
		}
	}
	for i, rank := range ranks(lists) {
		l[i].rank = rank
	}
	slices.SortStableFunc(l, func(a, b leader) int { return cmp.Compare(a.rank, b.rank) })
	return l
}

// Playoff returns who is left after how many holes.
func Playoff(l [][]int) ([]int, int, api.Errno) {
	e := first(
		unless(len(l) >= leastPlayoff, api.ErrShape),
		unless(len(l) <= api.MaxPlayers, api.ErrMany),
		checkLists(l, func(strokes []int) api.Errno {
			return first(sized(strokes, api.MaxHoles), eachWithin(strokes, 1, api.MaxStrokes))
		}))
	if e != api.OK {
		return nil, 0, e
	}
	left, holes := playoff(l)
	return left, holes, api.OK
}

func playoff(l [][]int) (left []int, holes int) {
	for player := range l {
		left = append(left, player)
	}
	for len(left) > 1 && holes < len(l[0]) {
		strokes := func(player int) int { return l[player][holes] }
		fewest := slices.Min(eachOf(left, strokes))
		left = slices.DeleteFunc(left, func(player int) bool { return strokes(player) > fewest })
		holes++
	}
	return left, holes
}
