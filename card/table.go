package card

import (
	"cmp"
	"slices"

	"niblick/api"
)

// point is a breakpoint whose numbers have been read.
type point struct {
	x, y fraction
}

// CheckTable returns the first error of a table, or OK.
func CheckTable(t []api.Point) api.Errno {
	_, e := readTable(t)
	return e
}

func readTable(t []api.Point) ([]point, api.Errno) {
	if e := sized(t, api.MaxPoints); e != api.OK {
		return nil, e
	}
	points := make([]point, len(t))
	for i, p := range t {
		x, y, e := readTwo(p.X, p.Y)
		if e != api.OK {
			return nil, e
		}
		if i > 0 && x.compare(points[i-1].x) <= 0 {
			return nil, api.ErrOrder
		}
		points[i] = point{x, y}
	}
	return points, api.OK
}

// Value returns the value of a table.
func Value(t []api.Point, x api.Rat) (api.Rat, api.Errno) {
	points, e := readTable(t)
	if e != api.OK {
		return "", e
	}
	at, e := read(x)
	if e != api.OK {
		return "", e
	}
	return valueAt(points, at).text()
}

func valueAt(points []point, x fraction) fraction {
	next := slices.IndexFunc(points, func(p point) bool { return x.compare(p.x) <= 0 })
	switch next {
	case -1:
		return points[len(points)-1].y
	case 0:
		return points[0].y
	}
	from, to := points[next-1], points[next]
	part := x.minus(from.x).over(to.x.minus(from.x))
	return from.y.plus(to.y.minus(from.y).times(part))
}

// Shares divides a whole number by whole weights.
func Shares(total int, weights []int) ([]int, api.Errno) {
	if e := first(within(total, 0, api.MaxNumber), checkWeights(weights)); e != api.OK {
		return nil, e
	}
	sum, left := sumOf(weights...), total
	shares, rests, order := make([]int, len(weights)), make([]int, len(weights)), make([]int, len(weights))
	for i, weight := range weights {
		shares[i], rests[i], order[i] = total*weight/sum, total*weight%sum, i
		left -= shares[i]
	}
	slices.SortStableFunc(order, func(i, j int) int { return cmp.Compare(rests[j], rests[i]) })
	for _, i := range order[:left] {
		shares[i]++
	}
	return shares, api.OK
}

func checkWeights(weights []int) api.Errno {
	if e := sized(weights, api.MaxList); e != api.OK {
		return e
	}
	for _, weight := range weights {
		if e := within(weight, 0, api.MaxNumber); e != api.OK {
			return e
		}
	}
	return unless(sumOf(weights...) > 0, api.ErrZero)
}

func sumOf(numbers ...int) int {
	sum := 0
	for _, n := range numbers {
		sum += n
	}
	return sum
}
