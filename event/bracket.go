package event

import (
	"cmp"
	"math/bits"
	"slices"

	"niblick/api"
)

// What slots without a player have.
const (
	noSeed = 0
	bye    = ""
)

// Bracket returns the seeds of the slots of a draw; 0 is a bye.
func Bracket(n int) ([]int, api.Errno) {
	if e := within(n, 1, api.MaxPlayers); e != api.OK {
		return nil, e
	}
	return bracket(n), api.OK
}

func bracket(n int) []int {
	seeds := []int{1}
	for len(seeds) < n {
		var doubled []int
		for _, s := range seeds {
			doubled = append(doubled, s, 2*len(seeds)+1-s)
		}
		seeds = doubled
	}
	return eachOf(seeds, func(s int) int {
		if s > n {
			return noSeed
		}
		return s
	})
}

// pairs returns the slots that play each other.
func pairs[T any](slots []T) [][2]T {
	var l [][2]T
	for i := 1; i < len(slots); i += 2 {
		l = append(l, [2]T{slots[i-1], slots[i]})
	}
	return l
}

// Meet returns the round in which two seeds meet if both win.
func Meet(n, a, b int) (int, api.Errno) {
	e := first(
		within(n, 1, api.MaxPlayers),
		unless(1 <= a && a <= n, api.ErrUnknown),
		unless(1 <= b && b <= n, api.ErrUnknown),
		unless(a != b, api.ErrTwice))
	if e != api.OK {
		return 0, e
	}
	return meet(bracket(n), a, b), api.OK
}

// meet plays rounds in which the seeds a and b win until they meet. Who else wins makes no difference.
func meet(seeds []int, a, b int) int {
	round := 0
rounds:
	for len(seeds) > 1 {
		round++
		var winners []int
		for _, pair := range pairs(seeds) {
			switch {
			case pair == [2]int{a, b}, pair == [2]int{b, a}:
				break rounds
			case pair[1] == a, pair[1] == b:
				winners = append(winners, pair[1])
			default:
				winners = append(winners, pair[0])
			}
		}
		seeds = winners
	}
	return round
}

// Draw returns the slots of a draw of players by their seeds.
func Draw(players []string) ([]string, api.Errno) {
	if e := checkPlayers(players); e != api.OK {
		return nil, e
	}
	return eachOf(bracket(len(players)), func(seed int) string {
		if seed == noSeed {
			return bye
		}
		return players[seed-1]
	}), api.OK
}

// Advance returns the slots of the next round.
func Advance(slots, losers []string) ([]string, api.Errno) {
	if e := checkRound(slots, losers); e != api.OK {
		return nil, e
	}
	left := pairs(eachOf(slots, func(player string) string {
		if slices.Contains(losers, player) {
			return bye
		}
		return player
	}))
	if slices.ContainsFunc(left, func(pair [2]string) bool { return pair[0] != bye && pair[1] != bye }) {
		return nil, api.ErrState
	}
	return eachOf(left, func(pair [2]string) string { return cmp.Or(pair[0], pair[1]) }), api.OK
}

// Run returns the slots of all rounds.
func Run(players []string, losers [][]string) ([][]string, api.Errno) {
	slots, e := Draw(players)
	if e := first(e, unless(len(losers) < bits.Len(uint(len(slots))), api.ErrOver)); e != api.OK {
		return nil, e
	}
	rounds := [][]string{slots}
	for _, l := range losers {
		slots, e = Advance(slots, l)
		if e != api.OK {
			return nil, e
		}
		rounds = append(rounds, slots)
	}
	return rounds, api.OK
}
