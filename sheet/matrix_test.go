package sheet_test

import (
	"fmt"
	"math"
	"math/big"
	"math/rand"
	"slices"
	"testing"

	"niblick/api"
	"niblick/sheet"
)

func TestP8_6Examples(t *testing.T) {
	h, e := sheet.Holes([]int{10, 12})
	gives(t, "Holes", h, e, matrix("10 .", "22 12"))
	x, e := sheet.Apply(h, []int{10, 22})
	gives(t, "Apply", x, e, []int{20, 34})
	m, e := sheet.Power(h, 2)
	gives(t, "its square", m, e, matrix("20 .", "34 24"))
	m, e = sheet.Product(h, h)
	gives(t, "its product with itself", m, e, matrix("20 .", "34 24"))
	c, e := mean(h)
	gives(t, "Mean", c, e, meant{"12", []int{1}})
}

func TestP8_6Product(t *testing.T) {
	for _, c := range []struct{ a, b, want [][]int }{
		{nil, nil, nil},
		{matrix("3"), matrix("-5"), matrix("-2")},
		{matrix("."), matrix("5"), matrix(".")},
		{matrix("5"), matrix("."), matrix(".")},
		{matrix("1 2", "3 4"), matrix("5 6", "7 8"), matrix("9 10", "11 12")},
		{matrix("1 .", ". 4"), matrix(". 6", "7 ."), matrix(". 7", "11 .")},
		{matrix("-7 .", "-9 -3"), matrix("-1 -2", ". -8"), matrix("-8 -9", "-10 -11")},
		{matrix("999999999 .", ". -999999999"), matrix("0 .", ". 0"), matrix("999999999 .", ". -999999999")},
		{matrix("999999999 .", ". -999999999"), matrix("-999999999 .", ". 999999999"), matrix("0 .", ". 0")},
		{matrix("-999999999 0", ". ."), matrix("-999999999 .", "3 ."), matrix("3 .", ". .")},
	} {
		m, e := sheet.Product(c.a, c.b)
		gives(t, fmt.Sprint(c.a, " times ", c.b), m, e, c.want)
	}
	for _, c := range []struct {
		a, b [][]int
		want api.Errno
	}{
		{matrix("999999999"), matrix("1"), api.ErrLarge},
		{matrix("-999999999"), matrix("-1"), api.ErrLarge}, // the number of None
		{matrix("-1"), matrix("-999999999"), api.ErrLarge},
		{matrix("-999999999"), matrix("-2"), api.ErrLarge},
		{matrix("999999999"), matrix("999999999"), api.ErrLarge},
		{matrix("0 .", ". -500000000"), matrix("0 .", ". -500000000"), api.ErrLarge},
		{matrix("0"), nil, api.ErrShape},
		{nil, matrix("0"), api.ErrShape},
		{matrix("999999999"), matrix("1 .", ". 1"), api.ErrShape},
		{matrix("0 0"), matrix("1000000000"), api.ErrShape},
		{matrix("1000000000"), matrix("0 0"), api.ErrRange},
		{matrix("0"), matrix("1000000000 0", "0 0"), api.ErrRange},
		{matrix("0"), make([][]int, 25), api.ErrMany},
		{make([][]int, 25), matrix("0"), api.ErrMany},
	} {
		m, e := sheet.Product(c.a, c.b)
		fails(t, fmt.Sprint(c.a, " times ", c.b), m, e, c.want)
	}
}

func TestP8_6Power(t *testing.T) {
	for _, c := range []struct {
		what string
		m    [][]int
		n    int
		want [][]int
	}{
		{"nothing", nil, 64, nil},
		{"the power 0", matrix("5 7", ". -999999999"), 0, matrix("0 .", ". 0")},
		{"the power 0 of none", matrix("."), 0, matrix("0")},
		{"the power 1", matrix("999999999 .", "1 -999999999"), 1, matrix("999999999 .", "1 -999999999")},
		{"the power 64", matrix("-15624999"), 64, matrix("-999999936")},
		{"none at last", matrix(". 999999999 .", ". . 999999999", ". . ."), 3, matrix(". . .", ". . .", ". . .")},
		{"sums that are too large on the way", matrix(". . . -999999999", "999999999 . . .", ". 999999999 . .", ". . -999999999 ."), 4, matrix("0 . . .", ". 0 . .", ". . 0 .", ". . . 0")},
	} {
		m, e := sheet.Power(c.m, c.n)
		gives(t, c.what, m, e, c.want)
	}
	// With the number of none on the way the sum goes on: it is -1000000000 after two steps, and 0 after four.
	round := matrix(". . . 500000000", "-500000000 . . .", ". -500000000 . .", ". . 500000000 .")
	m, e := sheet.Power(round, 2)
	fails(t, "the number of none", m, e, api.ErrLarge)
	m, e = sheet.Power(round, 4)
	gives(t, "all around", m, e, matrix("0 . . .", ". 0 . .", ". . 0 .", ". . . 0"))
	m, e = sheet.Power(round, 64)
	gives(t, "16 times all around", m, e, matrix("0 . . .", ". 0 . .", ". . 0 .", ". . . 0"))
	for _, c := range []struct {
		m    [][]int
		n    int
		want api.Errno
	}{
		{matrix("15625000"), 64, api.ErrLarge},
		{matrix("-15625000"), 64, api.ErrLarge},
		{matrix("500000000"), 2, api.ErrLarge},
		{matrix("999999999"), 64, api.ErrLarge},
		{matrix("-999999999"), 64, api.ErrLarge},
		{matrix("1"), -1, api.ErrRange},
		{matrix("1"), 65, api.ErrRange},
		{nil, 65, api.ErrRange},
		{matrix("1"), math.MinInt, api.ErrRange},
		{matrix("1"), math.MaxInt, api.ErrRange},
		{matrix("1 1"), 65, api.ErrShape},
	} {
		m, e := sheet.Power(c.m, c.n)
		fails(t, fmt.Sprint(c.m, " to the power ", c.n), m, e, c.want)
	}
}

func TestP8_6Apply(t *testing.T) {
	for _, c := range []struct {
		m    [][]int
		x    []int
		want []int
	}{
		{nil, nil, nil},
		{matrix("3"), []int{-5}, []int{-2}},
		{matrix("."), []int{5}, numbers(".")},
		{matrix("5"), numbers("."), numbers(".")},
		{matrix("1 2", "3 4"), []int{5, 6}, []int{8, 10}},
		{matrix("1 2", "3 ."), numbers(".", "6"), numbers("8", ".")},
		{matrix("0 .", ". 0"), []int{999999999, -999999999}, []int{999999999, -999999999}},
		{matrix("999999999 -999999999", ". -999999999"), []int{-999999999, 999999999}, []int{0, 0}},
	} {
		x, e := sheet.Apply(c.m, c.x)
		gives(t, fmt.Sprint(c.m, " times ", c.x), x, e, c.want)
	}
	for _, c := range []struct {
		m    [][]int
		x    []int
		want api.Errno
	}{
		{matrix("1"), []int{999999999}, api.ErrLarge},
		{matrix("-1"), []int{-999999999}, api.ErrLarge},
		{matrix("0 .", ". -999999999"), []int{0, -999999999}, api.ErrLarge},
		{matrix("0"), nil, api.ErrShape},
		{nil, []int{0}, api.ErrShape},
		{matrix("0"), []int{0, 1000000000}, api.ErrShape},
		{matrix("999999999"), []int{1000000000}, api.ErrRange},
		{matrix("0"), []int{-1000000001}, api.ErrRange},
		{matrix("0"), []int{math.MinInt}, api.ErrRange},
		{matrix("0 0", "0 0"), []int{0, math.MaxInt}, api.ErrRange},
		{matrix("1000000000"), []int{0, 0}, api.ErrRange},
	} {
		x, e := sheet.Apply(c.m, c.x)
		fails(t, fmt.Sprint(c.m, " times ", c.x), x, e, c.want)
	}
}

func TestP8_6ByDefinition(t *testing.T) {
	random := rand.New(rand.NewSource(9))
	large, right := 0, 0
	compare := func(what string, got [][]int, e api.Errno, want [][]*big.Int) {
		t.Helper()
		if m, small := narrow(want); small {
			gives(t, what, got, e, m)
			right++
		} else {
			fails(t, what, got, e, api.ErrLarge)
			large++
		}
	}
	for range 3000 {
		n, some := 1+random.Intn(5), pick(random, 10, 30, 60, 100)
		a, b := randomMatrix(random, n, some), randomMatrix(random, n, some)
		m, e := sheet.Product(a, b)
		compare(fmt.Sprint(a, " times ", b), m, e, slowProduct(wide(a), wide(b)))
		power := pick(random, 0, 1, 2, 3, 4, 5, 64)
		m, e = sheet.Power(a, power)
		compare(fmt.Sprint(a, " to the power ", power), m, e, slowPower(a, power))
		var column, applied [][]int
		for _, row := range b {
			column = append(column, row[:1])
		}
		x, e := sheet.Apply(a, slices.Concat(column...))
		for _, n := range x {
			applied = append(applied, []int{n})
		}
		compare(fmt.Sprint(a, " times ", column), applied, e, slowProduct(wide(a), wide(column)))
	}
	is(t, "often large, often not", large > 300 && right > 500, true)
}

func TestP8_6Holes(t *testing.T) {
	m, e := sheet.Holes([]int{7})
	gives(t, "one hole", m, e, matrix("7"))
	m, e = sheet.Holes([]int{1, 10000, 3})
	gives(t, "three holes", m, e, matrix("1 . .", "10001 10000 .", "10004 10003 3"))
	m, e = sheet.Holes(slices.Repeat([]int{10000}, 24))
	is(t, "24 holes", ok(t, m, e)[23][0], 240000)
	is(t, "above the diagonal", m[0][1], sheet.None)
	for _, c := range []struct {
		minutes []int
		want    api.Errno
	}{
		{nil, api.ErrEmpty},
		{make([]int, 25), api.ErrMany},
		{[]int{5, 0}, api.ErrRange},
		{[]int{10001}, api.ErrRange},
		{[]int{1, -1}, api.ErrRange},
		{[]int{math.MinInt}, api.ErrRange},
		{[]int{math.MaxInt, 1}, api.ErrRange},
	} {
		m, e := sheet.Holes(c.minutes)
		fails(t, fmt.Sprint(c.minutes), m, e, c.want)
	}
}

func TestP8_6Mean(t *testing.T) {
	for _, c := range []struct {
		what string
		m    [][]int
		want meant
	}{
		{"one row", matrix("-7"), meant{"-7", []int{0}}},
		{"a loop", matrix("1 .", ". 2"), meant{"2", []int{1}}},
		{"a loop that is 0", matrix("0 5", ". ."), meant{"0", []int{0}}},
		{"the greatest numbers", matrix("999999999 999999999", "999999998 ."), meant{"999999999", []int{0}}},
		{"the least numbers", matrix(". -999999999", ". -999999999"), meant{"-999999999", []int{1}}},
	} {
		x, e := mean(c.m)
		gives(t, c.what, x, e, c.want)
	}
	// A cycle may begin at any of its rows.
	for _, c := range []struct {
		what  string
		m     [][]int
		mean  api.Rat
		cycle []int
	}{
		{"two rows", matrix(". 3", "4 ."), "7/2", []int{0, 1}},
		{"below 0", matrix(". -3", "-4 ."), "-7/2", []int{0, 1}},
		{"two rows before a loop", matrix("3 3", "4 ."), "7/2", []int{0, 1}},
		{"a whole mean", matrix("4 3", "7 ."), "5", []int{0, 1}},
		{"three rows", matrix(". . 1", "2 . .", ". 5 ."), "8/3", []int{0, 1, 2}},
		{"the other way round", matrix(". 1 .", ". . 2", "5 . ."), "8/3", []int{0, 2, 1}},
		{"a cycle within others", matrix(". 9 . .", "-8 . 4 .", ". 4 . 9", ". . -8 ."), "4", []int{1, 2}},
	} {
		x, e := mean(c.m)
		is(t, c.what, ok(t, x, e).mean, c.mean)
		at := slices.Index(x.cycle, c.cycle[0])
		if at < 0 || !slices.Equal(slices.Concat(x.cycle[at:], x.cycle[:at]), c.cycle) {
			t.Errorf("%s: the cycle %v, want %v", c.what, x.cycle, c.cycle)
		}
	}
	for _, m := range [][][]int{nil, matrix("."), matrix(". 3", ". ."), matrix(". . .", "999999999 . .", "999999999 999999999 .")} {
		x, e := mean(m)
		fails(t, fmt.Sprint(m), x, e, api.ErrNone)
	}
}

func TestP8_6LongestCycle(t *testing.T) {
	ring := make([][]int, 24)
	for i := range ring {
		ring[i] = slices.Repeat([]int{sheet.None}, 24)
		ring[i][(i+23)%24] = 999999999
	}
	ring[5][4] = 999999998
	x, e := mean(ring)
	is(t, "the mean of 24 rows", ok(t, x, e).mean, "23999999975/24")
	is(t, "all rows", slices.Sorted(slices.Values(x.cycle)), upTo(24))
	m, e := sheet.CheckCycle(ring, x.cycle)
	gives(t, "a cycle", m, e, x.mean)
}

func TestP8_6MeanByDefinition(t *testing.T) {
	random := rand.New(rand.NewSource(10))
	none, long := 0, 0
	for range 3000 {
		m := randomMatrix(random, 1+random.Intn(6), pick(random, 10, 20, 40, 100))
		want := slowMean(m)
		x, e := mean(m)
		if want == nil {
			fails(t, fmt.Sprint(m), x, e, api.ErrNone)
			none++
			continue
		}
		is(t, fmt.Sprint(m), ok(t, x, e).mean, ratOf(want))
		of, e := sheet.CheckCycle(m, x.cycle)
		gives(t, fmt.Sprint(x.cycle, " of ", m), of, e, x.mean)
		if len(x.cycle) > 1 {
			long++
		}
	}
	is(t, "often none, often long", none > 300 && long > 500, true)
}

// ratOf returns the text of a number.
func ratOf(x *big.Rat) api.Rat {
	if x.IsInt() {
		return api.Rat(x.Num().String())
	}
	return api.Rat(x.String())
}

func TestP8_6CheckCycle(t *testing.T) {
	m := matrix(". 3 1", "4 . .", ". 999999999 -999999999")
	for _, c := range []struct {
		cycle []int
		want  api.Rat
	}{
		{[]int{0, 1}, "7/2"},
		{[]int{1, 0}, "7/2"},
		{[]int{2}, "-999999999"},
		{[]int{0, 1, 2}, "1000000004/3"},
		{[]int{1, 2, 0}, "1000000004/3"},
	} {
		mean, e := sheet.CheckCycle(m, c.cycle)
		gives(t, fmt.Sprint(c.cycle), mean, e, c.want)
	}
	for _, c := range []struct {
		cycle []int
		want  api.Errno
	}{
		{nil, api.ErrEmpty},
		{[]int{0}, api.ErrNone},
		{[]int{2, 1, 0}, api.ErrNone},
		{[]int{1, 2}, api.ErrNone},
		{[]int{3}, api.ErrUnknown},
		{[]int{-1}, api.ErrUnknown},
		{[]int{0, math.MinInt}, api.ErrUnknown},
		{[]int{0, math.MaxInt, 0}, api.ErrUnknown},
		{[]int{0, 0}, api.ErrTwice},
		{[]int{2, 2}, api.ErrTwice},
		{[]int{0, 1, 0, 1}, api.ErrTwice},
		{[]int{0, 1, 2, 3}, api.ErrUnknown},
	} {
		mean, e := sheet.CheckCycle(m, c.cycle)
		fails(t, fmt.Sprint(c.cycle), mean, e, c.want)
	}
	mean, e := sheet.CheckCycle(nil, nil)
	fails(t, "nothing", mean, e, api.ErrEmpty)
	mean, e = sheet.CheckCycle(nil, []int{0})
	fails(t, "no row", mean, e, api.ErrUnknown)
	mean, e = sheet.CheckCycle(matrix("1 1"), nil)
	fails(t, "no matrix", mean, e, api.ErrShape)
}

func TestP8_6CheckCycleByDefinition(t *testing.T) {
	random := rand.New(rand.NewSource(11))
	for range 300 {
		m := randomMatrix(random, 1+random.Intn(4), pick(random, 30, 60, 100))
		means := map[string]api.Rat{}
		cycles(m, func(cycle []int, sum int) {
			means[fmt.Sprint(cycle)] = ratOf(big.NewRat(int64(sum), int64(len(cycle))))
		})
		var visit func(rows []int)
		visit = func(rows []int) {
			if len(rows) > 0 {
				got, e := sheet.CheckCycle(m, rows)
				if want, known := means[fmt.Sprint(rows)]; known {
					gives(t, fmt.Sprint(rows, " of ", m), got, e, want)
				} else {
					fails(t, fmt.Sprint(rows, " of ", m), got, e, api.ErrNone)
				}
			}
			for next := range m {
				if !slices.Contains(rows, next) {
					visit(append(slices.Clone(rows), next))
				}
			}
		}
		visit(nil)
	}
}
