package sheet

import (
	"math"
	"slices"

	"niblick/api"
)

// nothing stands for none while matrices are computed with: it is below all sums, and no sum, as the number of None can be.
const nothing = math.MinInt

// algebra has the sum of two entries of matrices, and the greatest one of two. A sum with none is none, which is below all others.
type algebra[T any] struct {
	none     T
	sum      func(a, b T) T
	greatest func(a, b T) T
}

// times returns a matrix times a list.
func (g algebra[T]) times(m [][]T, x []T) []T {
	return eachOf(m, func(_ int, row []T) T {
		greatest := g.none
		for j, n := range row {
			greatest = g.greatest(greatest, g.sum(n, x[j]))
		}
		return greatest
	})
}

// product returns the product of two matrices: the first one times each column of the second one.
func (g algebra[T]) product(a, b [][]T) [][]T {
	columns := eachOf(transposed(b), func(_ int, column []T) []T { return g.times(a, column) })
	return transposed(columns)
}

// transposed exchanges the rows and the columns of a square.
func transposed[T any](m [][]T) [][]T {
	return eachOf(m, func(i int, _ []T) []T {
		return eachOf(m, func(_ int, row []T) T { return row[i] })
	})
}

// maxPlus is the algebra of numbers.
func maxPlus() algebra[int] {
	return algebra[int]{
		none: nothing,
		sum: func(a, b int) int {
			if a == nothing || b == nothing {
				return nothing
			}
			return a + b
		},
		greatest: func(a, b int) int { return max(a, b) },
	}
}

// read returns a list that has nothing for None.
func read(l []int) []int {
	return eachOf(l, func(_, n int) int {
		if n == None {
			return nothing
		}
		return n
	})
}

func readMatrix(m [][]int) [][]int {
	return eachOf(m, func(_ int, row []int) []int { return read(row) })
}

// write returns a list that has None for nothing, unless a number is too large.
func write(l []int) ([]int, api.Errno) {
	written := slices.Clone(l)
	for i, n := range l {
		switch {
		case n == nothing:
			written[i] = None
		case within(n, -api.MaxNumber, api.MaxNumber) != api.OK:
			return nil, api.ErrLarge
		}
	}
	return written, api.OK
}

func writeMatrix(m [][]int) ([][]int, api.Errno) {
	written := make([][]int, len(m))
	for i, l := range m {
		row, e := write(l)
		if e != api.OK {
			return nil, e
		}
		written[i] = row
	}
	return written, api.OK
}

// Product returns the product of two matrices.
func Product(a, b [][]int) ([][]int, api.Errno) {
	if e := firstError(CheckMatrix(a), CheckMatrix(b), paired(a, b)); e != api.OK {
		return nil, e
	}
	return writeMatrix(maxPlus().product(readMatrix(a), readMatrix(b)))
}

// Power returns a power of a matrix.
func Power(m [][]int, n int) ([][]int, api.Errno) {
	if e := firstError(CheckMatrix(m), within(n, 0, maxPower)); e != api.OK {
		return nil, e
	}
	steps, power := readMatrix(m), diagonal(len(m))
	for range n {
		power = maxPlus().product(power, steps)
	}
	return writeMatrix(power)
}

// diagonal returns the power 0 of matrices with so many rows.
func diagonal(rows int) [][]int {
	m := make([][]int, rows)
	for i := range m {
		m[i] = slices.Repeat([]int{nothing}, rows)
		m[i][i] = 0
	}
	return m
}

// Apply returns a matrix times a list.
func Apply(m [][]int, x []int) ([]int, api.Errno) {
	if e := firstError(CheckMatrix(m), paired(x, m), checkNumbers(x)); e != api.OK {
		return nil, e
	}
	return write(maxPlus().times(readMatrix(m), read(x)))
}

// Holes returns the matrix of holes that hold one group each.
func Holes(minutes []int) ([][]int, api.Errno) {
	if e := checkSome(minutes, api.MaxStates, between(1, MaxMinute)); e != api.OK {
		return nil, e
	}
	return eachOf(minutes, func(i, _ int) []int {
		return eachOf(minutes, func(k, _ int) int {
			if k > i {
				return None
			}
			return sumOf(minutes[k : i+1])
		})
	}), api.OK
}
