package card

import "niblick/api"

// maxRows is the greatest number of equations, and of unknowns.
const maxRows = 64

// Solve returns the only solution of a system of equations.
func Solve(m [][]api.Rat, b []api.Rat) ([]api.Rat, api.Errno) {
	rows, e := readEquations(m, b)
	if e != api.OK {
		return nil, e
	}
	columns := 0
	if len(m) > 0 {
		columns = len(m[0])
	}
	if !triangle(rows, columns) {
		return nil, api.ErrSingular
	}
	return unknowns(rows[:columns])
}

// readEquations returns a row for each equation: its numbers, and that of b.
func readEquations(m [][]api.Rat, b []api.Rat) ([][]whole, api.Errno) {
	if len(m) > maxRows {
		return nil, api.ErrMany
	}
	rows := make([][]Fraction, len(m))
	for i, r := range m {
		e := first(unless(len(r) <= maxRows, api.ErrMany), paired(r, m[0]))
		if e == api.OK {
			rows[i], e = readAll(r)
		}
		if e != api.OK {
			return nil, e
		}
	}
	if e := paired(m, b); e != api.OK {
		return nil, e
	}
	right, e := readAll(b)
	if e != api.OK {
		return nil, e
	}
	equations := make([][]whole, len(m))
	for i, row := range rows {
		equations[i] = cleared(append(row, right[i]))
	}
	return equations, api.OK
}

// cleared returns the multiple of a row that has integers without a common divisor.
func cleared(row []Fraction) []whole {
	multiple := small(1)
	for _, x := range row {
		more, _ := x.den.divided(commonDivisor(multiple, x.den))
		multiple = multiple.times(more)
	}
	integers := make([]whole, len(row))
	for i, x := range row {
		factor, _ := multiple.divided(x.den)
		integers[i] = x.num.times(whole{size: factor})
	}
	return primitive(integers)
}

// primitive divides a row by its greatest common divisor: otherwise its numbers would have twice as many digits after each step.
func primitive(row []whole) []whole {
	var common natural
	for _, x := range row {
		common = commonDivisor(x.size, common)
	}
	if len(common) == 0 || common.isOne() {
		return row
	}
	divided := make([]whole, len(row))
	for i, x := range row {
		size, _ := x.size.divided(common)
		divided[i] = whole{x.negative, size}
	}
	return divided
}

// triangle changes the equations so that each unknown has a row in which those before it have 0, and reports whether this is possible without a contradiction.
func triangle(rows [][]whole, columns int) bool {
search:
	for c := range columns {
		for r := c; r < len(rows); r++ {
			if !rows[r][c].isZero() {
				rows[c], rows[r] = rows[r], rows[c]
				clearBelow(rows, c)
				continue search
			}
		}
		return false
	}
	for _, row := range rows[columns:] {
		if !row[columns].isZero() {
			return false
		}
	}
	return true
}

// clearBelow makes the numbers below a pivot 0.
func clearBelow(rows [][]whole, pivot int) {
	for r := pivot + 1; r < len(rows); r++ {
		x, y := rows[pivot][pivot], rows[r][pivot]
		if y.isZero() {
			continue
		}
		rows[r] = primitive(combined(rows[r], rows[pivot], func(below, above whole) whole {
			return below.times(x).minus(above.times(y))
		}))
	}
}

// combined returns what two rows give, column by column.
func combined[T any](a, b []T, give func(x, y T) T) []T {
	row := make([]T, len(a))
	for i, x := range a {
		row[i] = give(x, b[i])
	}
	return row
}

// unknowns returns the solution of a triangle, unless one of its numbers has too many digits.
func unknowns(rows [][]whole) ([]api.Rat, api.Errno) {
	solution, texts := make([]Fraction, len(rows)), make([]api.Rat, len(rows))
	for i := len(rows) - 1; i >= 0; i-- {
		rest := Fraction{rows[i][len(rows)], small(1)}
		for j := i + 1; j < len(rows); j++ {
			rest = rest.Minus(solution[j].Times(Fraction{rows[i][j], small(1)}))
		}
		solution[i] = rest.Over(Fraction{rows[i][i], small(1)})
		text, e := solution[i].Rat()
		if e != api.OK {
			return nil, e
		}
		texts[i] = text
	}
	return texts, api.OK
}
