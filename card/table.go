package card

import (
	"cmp"
	"slices"

	"niblick/api"
)

// point is a breakpoint whose numbers have been read.
type point struct {
	x, y Fraction
}

// Table is a table whose numbers have been read. The zero value has no breakpoints.
type Table struct {
	points []point
}

// CheckTable returns the first error of a table, or OK.
func CheckTable(t []api.Point) api.Errno {
	_, e := ReadTable(t)
	return e
}

// ReadTable returns a table, or its first error.
func ReadTable(t []api.Point) (Table, api.Errno) {
	if e := sized(t, api.MaxPoints); e != api.OK {
		return Table{}, e
	}
	points := make([]point, len(t))
	for i, p := range t {
		x, y, e := readTwo(p.X, p.Y)
		if e != api.OK {
			return Table{}, e
		}
		if i > 0 && x.Compare(points[i-1].x) <= 0 {
			return Table{}, api.ErrOrder
		}
		points[i] = point{x, y}
	}
	return Table{points}, api.OK
}

// Value returns the value of a table.
func Value(t []api.Point, x api.Rat) (api.Rat, api.Errno) {
	table, e := ReadTable(t)
	if e != api.OK {
		return "", e
	}
	at, e := Read(x)
	if e != api.OK {
		return "", e
	}
	return table.At(at).Rat()
}

// At returns the value of a table, or 0 if it has no breakpoints.
func (t Table) At(x Fraction) Fraction {
	if len(t.points) == 0 {
		return Fraction{}
	}
	next := slices.IndexFunc(t.points, func(p point) bool { return x.Compare(p.x) <= 0 })
	switch next {
	case -1:
		return t.points[len(t.points)-1].y
	case 0:
		return t.points[0].y
	}
	from, to := t.points[next-1], t.points[next]
	part := x.Minus(from.x).Over(to.x.Minus(from.x))
	return from.y.Plus(to.y.Minus(from.y).Times(part))
}

// Shares divides a whole number by whole weights.
func Shares(total int, weights []int) ([]int, api.Errno) {
	if e := first(within(total, 0, api.MaxNumber), checkWeights(weights)); e != api.OK {
		return nil, e
	}
	sum, left := sumOf(weights...), total
	shares, rests, order := make([]int, len(weights)), make([]int, len(weights)), make([]int, len(weights))
	for i, weight := range weights {
		shares[i], rests[i], order[i] = total*weight/sum, total*weight%sum, i
		left -= shares[i]
	}
	slices.SortStableFunc(order, func(i, j int) int { return cmp.Compare(rests[j], rests[i]) })
	for _, i := range order[:left] {
		shares[i]++
	}
	return shares, api.OK
}

func checkWeights(weights []int) api.Errno {
	if e := sized(weights, api.MaxList); e != api.OK {
		return e
	}
	for _, weight := range weights {
		if e := within(weight, 0, api.MaxNumber); e != api.OK {
			return e
		}
	}
	return unless(sumOf(weights...) > 0, api.ErrZero)
}

func sumOf(numbers ...int) int {
	sum := 0
	for _, n := range numbers {
		sum += n
	}
	return sum
}
