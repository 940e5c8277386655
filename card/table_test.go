package card_test

import (
	"math"
	"math/big"
	"math/rand"
	"testing"

	"niblick/api"
	"niblick/card"
)

// points returns a table with the breakpoints 0, 0; 1, 3; 2, 6 and so on.
func points(n int) []api.Point {
	var t []api.Point
	for i := range n {
		x, _ := card.Of(i, 1)
		y, _ := card.Of(3*i, 1)
		t = append(t, api.Point{X: x, Y: y})
	}
	return t
}

var tableErrors = []struct {
	name  string
	table []api.Point
	want  api.Errno
}{
	{"nil", nil, api.ErrEmpty},
	{"empty", []api.Point{}, api.ErrEmpty},
	{"65 breakpoints", points(65), api.ErrMany},
	{"too many before a wrong one", append([]api.Point{{X: "a", Y: "0"}}, points(64)...), api.ErrMany},
	{"no X", []api.Point{{X: "", Y: "0"}}, api.ErrForm},
	{"no Y", []api.Point{{X: "0", Y: ""}}, api.ErrForm},
	{"X before Y", []api.Point{{X: api.Rat(long("9", 601)), Y: ""}}, api.ErrLarge},
	{"a large Y", []api.Point{{X: "0", Y: api.Rat(long("9", 601))}}, api.ErrLarge},
	{"equal X", []api.Point{{X: "1", Y: "0"}, {X: "1", Y: "1"}}, api.ErrOrder},
	{"lesser X", []api.Point{{X: "1/2", Y: "0"}, {X: "1/3", Y: "1"}}, api.ErrOrder},
	{"Y before the order", []api.Point{{X: "1", Y: "0"}, {X: "1", Y: "2/4"}}, api.ErrForm},
	{"the first breakpoint with an error", []api.Point{{X: "2", Y: "0"}, {X: "1", Y: "0"}, {X: "a", Y: "0"}}, api.ErrOrder},
	{"the error of an earlier breakpoint", []api.Point{{X: "2", Y: "b"}, {X: "1", Y: "0"}}, api.ErrForm},
	{"the order of later ones", []api.Point{{X: "1", Y: "0"}, {X: "3", Y: "0"}, {X: "2", Y: "0"}}, api.ErrOrder},
}

func TestP1_3CheckTable(t *testing.T) {
	for _, x := range tableErrors {
		is(t, x.name, card.CheckTable(x.table), x.want)
		for _, at := range []api.Rat{"0", "a"} {
			y, e := card.Value(x.table, at)
			fails(t, x.name, y, e, x.want)
		}
	}
	for _, n := range []int{1, 2, 63, 64} {
		is(t, "a table", card.CheckTable(points(n)), api.OK)
	}
	is(t, "Y need no order", card.CheckTable([]api.Point{{X: "-1", Y: "5"}, {X: "-1/2", Y: "-5"}, {X: "0", Y: "-5"}}), api.OK)
}

func TestP1_3Value(t *testing.T) {
	table := []api.Point{{X: "0", Y: "0"}, {X: "10", Y: "5"}, {X: "20", Y: "5"}}
	for _, x := range []struct{ x, want api.Rat }{
		{"-1", "0"}, {"0", "0"}, {"4", "2"}, {"1/3", "1/6"}, {"10", "5"}, {"15", "5"}, {"20", "5"}, {"30", "5"},
	} {
		y, e := card.Value(table, x.x)
		gives(t, "value", y, e, x.want)
	}
	falling := []api.Point{{X: "-2", Y: "7"}, {X: "1/2", Y: "-1/2"}, {X: "3/4", Y: "9"}}
	for _, x := range []struct{ x, want api.Rat }{
		{"-3", "7"}, {"-2", "7"}, {"-1", "4"}, {"0", "1"}, {"1/2", "-1/2"}, {"5/8", "17/4"}, {"3/4", "9"}, {"1", "9"},
	} {
		y, e := card.Value(falling, x.x)
		gives(t, "value", y, e, x.want)
	}
	for _, x := range []api.Rat{"-1", "1/2", "3"} {
		y, e := card.Value([]api.Point{{X: "1/2", Y: "3/4"}}, x)
		gives(t, "one breakpoint", y, e, "3/4")
	}
	y, e := card.Value(points(64), "125/2")
	gives(t, "64 breakpoints", y, e, "375/2")
	y, e = card.Value(points(64), "100")
	gives(t, "behind 64 breakpoints", y, e, "189")
	for _, x := range badNumbers {
		y, e := card.Value(table, x.text)
		fails(t, "x", y, e, x.e)
	}
}

func TestP1_3LargeValues(t *testing.T) {
	most := api.Rat(long("9", 600))
	table := []api.Point{{X: "0", Y: "-" + most}, {X: most, Y: most}, {X: most + "0", Y: "1"}}
	is(t, "too large", card.CheckTable(table), api.ErrLarge)
	table = table[:2]
	for _, x := range []struct{ x, want api.Rat }{{"0", "-" + most}, {most, most}, {"-" + most, "-" + most}} {
		y, e := card.Value(table, x.x)
		gives(t, "value", y, e, x.want)
	}
	half, _ := card.Div(most, "2")
	y, e := card.Value(table, half)
	gives(t, "value", y, e, "0")
	y, e = card.Value(table, "1/"+most)
	fails(t, "value", y, e, api.ErrLarge)
}

func TestP1_3ValueOnLines(t *testing.T) {
	random := rand.New(rand.NewSource(7))
	for range 300 {
		var table []api.Point
		var xs, ys []*big.Rat
		x := randomRat(random, 5)
		for range 1 + random.Intn(6) {
			y := randomRat(random, 5)
			table = append(table, api.Point{X: rat(x), Y: rat(y)})
			xs, ys = append(xs, x), append(ys, y)
			step := randomRat(random, 5)
			x = new(big.Rat).Add(x, step.Abs(step))
			x.Add(x, big.NewRat(1, 7))
		}
		for i := 1; i < len(xs); i++ {
			part := big.NewRat(int64(random.Intn(11)), 10)
			at := between(xs[i-1], xs[i], part)
			y, e := card.Value(table, rat(at))
			gives(t, "value", y, e, rat(between(ys[i-1], ys[i], part)))
		}
	}
}

// between returns what is a part of the way from one number to another one.
func between(from, to, part *big.Rat) *big.Rat {
	way := new(big.Rat).Sub(to, from)
	return way.Add(from, way.Mul(way, part))
}

func equalWeights(n, weight int) []int {
	weights := make([]int, n)
	for i := range weights {
		weights[i] = weight
	}
	return weights
}

func TestP1_3Shares(t *testing.T) {
	for _, x := range []struct {
		total   int
		weights []int
		want    []int
	}{
		{10, []int{1, 1, 1}, []int{4, 3, 3}},
		{10, []int{1, 2, 0}, []int{3, 7, 0}},
		{11, []int{1, 1, 1}, []int{4, 4, 3}},
		{0, []int{5}, []int{0}},
		{0, []int{0, 5}, []int{0, 0}},
		{7, []int{1, 2, 3, 4}, []int{1, 1, 2, 3}},
		{1, []int{0, 0, 1, 0}, []int{0, 0, 1, 0}},
		{1, []int{1, 3, 3, 2}, []int{0, 1, 0, 0}},
		{1, []int{1, 2, 3}, []int{0, 0, 1}},
		{2, []int{1, 2, 3}, []int{0, 1, 1}},
		{1001, []int{1, 1}, []int{501, 500}},
		{999999999, []int{999999999}, []int{999999999}},
		{999999999, []int{999999999, 999999999}, []int{500000000, 499999999}},
		{999999999, []int{1, 999999999, 1}, []int{1, 999999997, 1}},
	} {
		l, e := card.Shares(x.total, x.weights)
		gives(t, "shares", l, e, x.want)
	}
	many := equalWeights(256, 999999999)
	l, e := card.Shares(999999999, many)
	want := equalWeights(256, 3906249)
	for i := range 255 {
		want[i]++
	}
	gives(t, "256 weights", l, e, want)
	is(t, "the weights", many, equalWeights(256, 999999999))
}

func TestP1_3SharesErrors(t *testing.T) {
	for _, x := range []struct {
		name    string
		total   int
		weights []int
		want    api.Errno
	}{
		{"a total below 0", -1, []int{1}, api.ErrRange},
		{"a total too large", 1000000000, []int{1}, api.ErrRange},
		{"the least total", math.MinInt, nil, api.ErrRange},
		{"the total before the weights", -1, nil, api.ErrRange},
		{"the total before many weights", 1000000000, equalWeights(257, 0), api.ErrRange},
		{"no weights", 1, nil, api.ErrEmpty},
		{"257 weights", 1, equalWeights(257, 1), api.ErrMany},
		{"many before a range", 1, equalWeights(257, -1), api.ErrMany},
		{"a weight below 0", 1, []int{1, -1}, api.ErrRange},
		{"a weight too large", 1, []int{0, 1000000000}, api.ErrRange},
		{"a sum of 0 with a weight below 0", 1, []int{1, -1}, api.ErrRange},
		{"extreme weights", 1, []int{math.MaxInt, math.MaxInt, 2}, api.ErrRange},
		{"zero weights", 1, []int{0, 0}, api.ErrZero},
		{"zero weights and no total", 0, []int{0}, api.ErrZero},
		{"256 zero weights", 1, equalWeights(256, 0), api.ErrZero},
	} {
		l, e := card.Shares(x.total, x.weights)
		fails(t, x.name, l, e, x.want)
	}
}
