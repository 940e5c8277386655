package sheet_test

import (
	"math/big"
	"slices"

	"niblick/sheet"
)

// Slow functions that follow the definitions of the chapter word by word, for arguments without errors.

// wishOf returns the weight of the wish of a request for a slot, and whether there is one.
func wishOf(q sheet.Request, slot int) (int, bool) {
	for _, w := range q.Wishes {
		if w.Slot == slot {
			return w.Weight, true
		}
	}
	return 0, false
}

// choices calls a function with each choice of a wished slot, or -1, for each request such that no slot has more requests than places. They are in lexicographical order, where -1 comes last.
func choices(l []sheet.Slot, r []sheet.Request, visit func(a []int)) {
	var choose func(a []int)
	choose = func(a []int) {
		if len(a) == len(r) {
			visit(a)
			return
		}
		for slot, s := range l {
			taken := 0
			for _, own := range a {
				if own == slot {
					taken++
				}
			}
			if _, wished := wishOf(r[len(a)], slot); wished && taken < s.Places {
				choose(append(slices.Clone(a), slot))
			}
		}
		choose(append(slices.Clone(a), -1))
	}
	choose(nil)
}

// slowValue returns the value of a choice, and how many are served, and whether these include all guaranteed requests.
func slowValue(r []sheet.Request, a []int) (value, served int, sure bool) {
	sure = true
	for i, q := range r {
		weight, wished := wishOf(q, a[i])
		value += weight
		if wished {
			served++
		}
		sure = sure && (wished || !q.Guaranteed)
	}
	return value, served, sure
}

// solved is what all choices show together.
type solved struct {
	feasible bool
	best     int
	first    []int
	most     int
}

func slowSolve(l []sheet.Slot, r []sheet.Request) solved {
	var s solved
	choices(l, r, func(a []int) {
		value, served, sure := slowValue(r, a)
		s.most = max(s.most, served)
		if sure && (!s.feasible || value > s.best) {
			s.feasible, s.best, s.first = true, value, a
		}
	})
	return s
}

// slowProves reports whether prices prove a value.
func slowProves(l []sheet.Slot, r []sheet.Request, value int, p sheet.Prices) bool {
	sum := new(big.Int)
	for i, q := range r {
		if !q.Guaranteed && p.Requests[i] < 0 {
			return false
		}
		for _, w := range q.Wishes {
			if p.Requests[i]+p.Slots[w.Slot] < w.Weight {
				return false
			}
		}
		sum.Add(sum, big.NewInt(int64(p.Requests[i])))
	}
	for j, s := range l {
		if p.Slots[j] < 0 {
			return false
		}
		for range s.Places {
			sum.Add(sum, big.NewInt(int64(p.Slots[j])))
		}
	}
	return sum.Cmp(big.NewInt(int64(value))) == 0
}

// slowExcluded looks at all sets of so many guaranteed requests, in lexicographical order, before it looks at greater ones.
func slowExcluded(l []sheet.Slot, r []sheet.Request) []int {
	excludes := func(set []int) bool {
		places := 0
		for slot, s := range l {
			if slices.ContainsFunc(set, func(i int) bool { _, wished := wishOf(r[i], slot); return wished }) {
				places += s.Places
			}
		}
		return places < len(set)
	}
	var search func(set []int, from, left int) []int
	search = func(set []int, from, left int) []int {
		if left == 0 {
			if excludes(set) {
				return set
			}
			return nil
		}
		for i := from; i < len(r); i++ {
			if r[i].Guaranteed {
				if found := search(append(slices.Clone(set), i), i+1, left-1); found != nil {
					return found
				}
			}
		}
		return nil
	}
	for size := 1; size <= len(r); size++ {
		if found := search(nil, 0, size); found != nil {
			return found
		}
	}
	return nil
}

func slowWithdraw(r []sheet.Request, a []int, i int) []int {
	after := slices.Clone(a)
	after[i] = -1
	for k, q := range r {
		if _, wished := wishOf(q, a[i]); k != i && a[k] == -1 && wished {
			after[k] = a[i]
			return after
		}
	}
	return after
}

// play has the minutes at which groups come to holes, begin and end them; -1 is not yet.
type play struct {
	come, begin, end [][]int
}

// slowPlay lets one minute pass after another, and at each one lets everyone do what is possible.
func slowPlay(p sheet.Pace) play {
	table := func() [][]int {
		var rows [][]int
		for range p.Ready {
			rows = append(rows, slices.Repeat([]int{-1}, len(p.Holds)))
		}
		return rows
	}
	x := play{table(), table(), table()}
	left := len(p.Ready) * len(p.Holds)
	for minute := 0; left > 0; minute++ {
		for again := true; again; {
			again = false
			for g := range p.Ready {
				for h := range p.Holds {
					ended := x.end[g][h] >= 0
					if x.step(p, g, h, minute) {
						again = true
					}
					if !ended && x.end[g][h] >= 0 {
						left--
					}
				}
			}
		}
	}
	return x
}

// step does the next thing that a group can do at a hole in a minute, if there is one.
func (x play) step(p sheet.Pace, g, h, minute int) bool {
	switch {
	case x.come[g][h] < 0:
		if h == 0 && minute >= p.Ready[g] || h > 0 && x.end[g][h-1] >= 0 {
			x.come[g][h] = minute
			return true
		}
	case x.begin[g][h] < 0:
		if (g == 0 || x.begin[g-1][h] >= 0) && (g < p.Holds[h] || x.end[g-p.Holds[h]][h] >= 0) {
			x.begin[g][h] = minute
			return true
		}
	case x.end[g][h] < 0:
		if minute >= x.begin[g][h]+p.Minutes[g][h] && (g == 0 || x.end[g-1][h] >= 0) {
			x.end[g][h] = minute
			return true
		}
	}
	return false
}

func slowDelays(p sheet.Pace) []int {
	x := slowPlay(p)
	var delays []int
	for g := range p.Ready {
		delay := 0
		for h := range p.Holds {
			delay += x.begin[g][h] - x.come[g][h]
			delay += x.end[g][h] - x.begin[g][h] - p.Minutes[g][h]
		}
		delays = append(delays, delay)
	}
	return delays
}

func slowBottleneck(p sheet.Pace) (int, int) {
	x := slowPlay(p)
	hole, most := -1, -1
	for h := range p.Holds {
		sum := 0
		for g := range p.Ready {
			sum += x.begin[g][h] - x.come[g][h]
		}
		if sum > most {
			hole, most = h, sum
		}
	}
	return hole, most
}

// wide returns the entries of a matrix as numbers of any size, and nil for none.
func wide(m [][]int) [][]*big.Int {
	var rows [][]*big.Int
	for _, row := range m {
		var l []*big.Int
		for _, n := range row {
			if n == sheet.None {
				l = append(l, nil)
			} else {
				l = append(l, big.NewInt(int64(n)))
			}
		}
		rows = append(rows, l)
	}
	return rows
}

// narrow returns a matrix, unless one of its numbers is too large.
func narrow(m [][]*big.Int) ([][]int, bool) {
	most := big.NewInt(999999999)
	var rows [][]int
	for _, row := range m {
		var l []int
		for _, n := range row {
			switch {
			case n == nil:
				l = append(l, -1000000000)
			case new(big.Int).Abs(n).Cmp(most) > 0:
				return nil, false
			default:
				l = append(l, int(n.Int64()))
			}
		}
		rows = append(rows, l)
	}
	return rows, true
}

// slowProduct is the product of two lists of rows.
func slowProduct(a, b [][]*big.Int) [][]*big.Int {
	var rows [][]*big.Int
	for i := range a {
		var l []*big.Int
		for k := range b[0] {
			var greatest *big.Int
			for j := range b {
				if a[i][j] == nil || b[j][k] == nil {
					continue
				}
				if sum := new(big.Int).Add(a[i][j], b[j][k]); greatest == nil || sum.Cmp(greatest) > 0 {
					greatest = sum
				}
			}
			l = append(l, greatest)
		}
		rows = append(rows, l)
	}
	return rows
}

func slowPower(m [][]int, n int) [][]*big.Int {
	power := wide(m)
	for i := range power {
		for k := range power {
			power[i][k] = nil
			if i == k {
				power[i][k] = big.NewInt(0)
			}
		}
	}
	for range n {
		power = slowProduct(wide(m), power)
	}
	return power
}

// cycles calls a function with each cycle of a matrix, from each of its rows on, with the sum of its numbers.
func cycles(m [][]int, visit func(cycle []int, sum int)) {
	var extend func(cycle []int, sum int)
	extend = func(cycle []int, sum int) {
		first, last := cycle[0], cycle[len(cycle)-1]
		if m[first][last] != sheet.None {
			visit(cycle, sum+m[first][last])
		}
		for next := range m {
			if !slices.Contains(cycle, next) && m[next][last] != sheet.None {
				extend(append(slices.Clone(cycle), next), sum+m[next][last])
			}
		}
	}
	for first := range m {
		extend([]int{first}, 0)
	}
}

// slowMean returns the greatest mean of a cycle, or nil.
func slowMean(m [][]int) *big.Rat {
	var greatest *big.Rat
	cycles(m, func(cycle []int, sum int) {
		if mean := big.NewRat(int64(sum), int64(len(cycle))); greatest == nil || mean.Cmp(greatest) > 0 {
			greatest = mean
		}
	})
	return greatest
}
