package sheet

import (
	"slices"

	"niblick/api"
	"niblick/card"
)

// walk leads from column to row through a matrix: the sum of its numbers, and the rows to which it comes.
type walk struct {
	sum  int
	rows []int
}

// walks is the algebra of walks: the second one of a sum comes first.
func walks() algebra[walk] {
	numbers := maxPlus()
	none := walk{sum: numbers.none}
	return algebra[walk]{
		none: none,
		sum: func(a, b walk) walk {
			sum := numbers.sum(a.sum, b.sum)
			if sum == numbers.none {
				return none
			}
			return walk{sum, slices.Concat(b.rows, a.rows)}
		},
		greatest: func(a, b walk) walk {
			if b.sum > a.sum {
				return b
			}
			return a
		},
	}
}

// isSteeper reports whether a walk has a greater mean than another one, or the other one is none.
func (w walk) isSteeper(other walk) bool {
	if w.sum == nothing || other.sum == nothing {
		return w.sum != nothing
	}
	return w.sum*len(other.rows) > other.sum*len(w.rows)
}

// steepest returns a cycle with the greatest mean, or none. It is a shortest one of all walks back to a row that have this mean, so it comes to no row twice: it could be divided there, and one of its parts would have this mean, too.
func steepest(m [][]int) walk {
	steps := eachOf(readMatrix(m), func(i int, row []int) []walk {
		return eachOf(row, func(_, n int) walk { return walk{n, []int{i}} })
	})
	best, power := walks().none, steps
	for range m {
		for i := range m {
			if power[i][i].isSteeper(best) {
				best = power[i][i]
			}
		}
		power = walks().product(power, steps)
	}
	return best
}

// Mean returns the greatest mean of a cycle, and a cycle that has it.
func Mean(m [][]int) (api.Rat, []int, api.Errno) {
	if e := CheckMatrix(m); e != api.OK {
		return "", nil, e
	}
	best := steepest(m)
	if best.sum == nothing {
		return "", nil, api.ErrNone
	}
	mean, e := card.Of(best.sum, len(best.rows))
	return mean, best.rows, e
}

// CheckCycle returns the mean of a cycle, or its first error.
func CheckCycle(m [][]int, cycle []int) (api.Rat, api.Errno) {
	if e := firstError(CheckMatrix(m), checkRows(m, cycle)); e != api.OK {
		return "", e
	}
	sum, before := 0, cycle[len(cycle)-1]
	for _, row := range cycle {
		if m[row][before] == None {
			return "", api.ErrNone
		}
		sum += m[row][before]
		before = row
	}
	return card.Of(sum, len(cycle))
}
