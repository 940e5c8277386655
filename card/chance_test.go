package card_test

import (
	"math"
	"math/big"
	"math/rand"
	"testing"

	"niblick/api"
	"niblick/card"
)

// oneHole is the example of the chapter.
func oneHole() []api.Chance {
	return []api.Chance{{Value: 3, Weight: "1/4"}, {Value: 4, Weight: "1/2"}, {Value: 5, Weight: "1/4"}}
}

// even returns 2^k values with equal weights, from a first one on in equal steps.
func even(first, step, k int) []api.Chance {
	weight, _ := card.Of(1, 1<<k)
	var l []api.Chance
	for i := range 1 << k {
		l = append(l, api.Chance{Value: first + i*step, Weight: weight})
	}
	return l
}

// power returns 2^k.
func power(k int) *big.Int {
	return new(big.Int).Lsh(big.NewInt(1), uint(k))
}

// rare returns two values, the first one with the chance 1 / 2^k.
func rare(first, second, k int) []api.Chance {
	x := new(big.Rat).SetFrac(big.NewInt(1), power(k))
	return []api.Chance{{Value: first, Weight: rat(x)}, {Value: second, Weight: rat(new(big.Rat).Sub(big.NewRat(1, 1), x))}}
}

var chanceErrors = []struct {
	name string
	l    []api.Chance
	want api.Errno
}{
	{"nil", nil, api.ErrEmpty},
	{"empty", []api.Chance{}, api.ErrEmpty},
	{"65 rows", append(even(0, 1, 6), api.Chance{Value: 99, Weight: "1"}), api.ErrMany},
	{"too many before a range", append([]api.Chance{{Value: math.MinInt}}, even(0, 1, 6)...), api.ErrMany},
	{"a value too large", []api.Chance{{Value: 1000000000, Weight: "1"}}, api.ErrRange},
	{"a value too small", []api.Chance{{Value: -1000000000, Weight: "1"}}, api.ErrRange},
	{"the value before the weight", []api.Chance{{Value: math.MaxInt, Weight: ""}}, api.ErrRange},
	{"no number", []api.Chance{{Value: 1, Weight: ""}}, api.ErrForm},
	{"not in lowest terms", []api.Chance{{Value: 1, Weight: "2/4"}}, api.ErrForm},
	{"a large weight", []api.Chance{{Value: 1, Weight: api.Rat("-" + long("9", 601))}}, api.ErrLarge},
	{"a weight 0", []api.Chance{{Value: 1, Weight: "0"}, {Value: 2, Weight: "1"}}, api.ErrRange},
	{"a weight below 0", []api.Chance{{Value: 1, Weight: "-1/2"}, {Value: 2, Weight: "3/2"}}, api.ErrRange},
	{"the sign before the denominator", []api.Chance{{Value: 1, Weight: "-1/3"}}, api.ErrRange},
	{"thirds", []api.Chance{{Value: 3, Weight: "1/3"}, {Value: 4, Weight: "2/3"}}, api.ErrForm},
	{"sixths", []api.Chance{{Value: 3, Weight: "1/6"}, {Value: 4, Weight: "5/6"}}, api.ErrForm},
	{"the denominator before the order", []api.Chance{{Value: 4, Weight: "1/2"}, {Value: 3, Weight: "1/3"}}, api.ErrForm},
	{"equal values", []api.Chance{{Value: 3, Weight: "1/2"}, {Value: 3, Weight: "1/2"}}, api.ErrOrder},
	{"lesser values", []api.Chance{{Value: 3, Weight: "1/2"}, {Value: 2, Weight: "1/2"}}, api.ErrOrder},
	{"the order before a later row", []api.Chance{{Value: 3, Weight: "1/2"}, {Value: 3, Weight: "1/2"}, {Value: 4, Weight: "a"}}, api.ErrOrder},
	{"the order before the sum", []api.Chance{{Value: 3, Weight: "1/2"}, {Value: 2, Weight: "3/4"}}, api.ErrOrder},
	{"a sum below 1", oneHole()[:2], api.ErrSum},
	{"a sum above 1", []api.Chance{{Value: 3, Weight: "1/2"}, {Value: 4, Weight: "3/4"}}, api.ErrSum},
	{"an integer above 1", []api.Chance{{Value: 3, Weight: "2"}}, api.ErrSum},
	{"almost 1", rare(0, 1, 1900)[1:], api.ErrSum},
}

func TestP1_4CheckChances(t *testing.T) {
	for _, x := range chanceErrors {
		is(t, x.name, card.CheckChances(x.l), x.want)
		a, e := card.Mean(x.l)
		fails(t, x.name, a, e, x.want)
		a, e = card.Atmost(x.l, 0)
		fails(t, x.name, a, e, x.want)
		l, e := card.Convolve(x.l, oneHole())
		fails(t, x.name, l, e, x.want)
		l, e = card.Convolve(oneHole(), x.l)
		fails(t, x.name, l, e, x.want)
		for _, y := range chanceErrors {
			l, e = card.Convolve(x.l, y.l)
			fails(t, x.name, l, e, x.want)
		}
	}
	for _, l := range [][]api.Chance{
		oneHole(), {{Value: 7, Weight: "1"}}, even(0, 1, 6), rare(0, 1, 1992),
		{{Value: -999999999, Weight: "1/2"}, {Value: 999999999, Weight: "1/2"}},
	} {
		is(t, "chances", card.CheckChances(l), api.OK)
	}
}

func TestP1_4Mean(t *testing.T) {
	for _, x := range []struct {
		l    []api.Chance
		want api.Rat
	}{
		{oneHole(), "4"},
		{[]api.Chance{{Value: -7, Weight: "1"}}, "-7"},
		{[]api.Chance{{Value: 0, Weight: "1"}}, "0"},
		{[]api.Chance{{Value: -3, Weight: "1/8"}, {Value: 2, Weight: "7/8"}}, "11/8"},
		{[]api.Chance{{Value: -999999999, Weight: "1/2"}, {Value: 999999999, Weight: "1/2"}}, "0"},
		{even(0, 1, 6), "63/2"},
	} {
		a, e := card.Mean(x.l)
		gives(t, "mean", a, e, x.want)
	}
	// Of this mean the numerator alone has more digits than a weight.
	a, e := card.Mean(rare(0, 999999999, 1993))
	fails(t, "a large mean", a, e, api.ErrLarge)
	a, e = card.Mean(rare(0, 1, 1993))
	gives(t, "a mean", a, e, rare(0, 1, 1993)[1].Weight)
}

func TestP1_4Convolve(t *testing.T) {
	l, e := card.Convolve(oneHole(), oneHole())
	gives(t, "two holes", l, e, []api.Chance{{Value: 6, Weight: "1/16"}, {Value: 7, Weight: "1/4"}, {Value: 8, Weight: "3/8"}, {Value: 9, Weight: "1/4"}, {Value: 10, Weight: "1/16"}})
	l, e = card.Convolve([]api.Chance{{Value: -2, Weight: "1/2"}, {Value: 5, Weight: "1/2"}}, []api.Chance{{Value: -7, Weight: "3/4"}, {Value: 0, Weight: "1/4"}})
	gives(t, "a sum that two pairs have", l, e, []api.Chance{{Value: -9, Weight: "3/8"}, {Value: -2, Weight: "1/2"}, {Value: 5, Weight: "1/8"}})
	l, e = card.Convolve([]api.Chance{{Value: 3, Weight: "1"}}, oneHole())
	gives(t, "a certain value", l, e, []api.Chance{{Value: 6, Weight: "1/4"}, {Value: 7, Weight: "1/2"}, {Value: 8, Weight: "1/4"}})
	l, e = card.Convolve(even(0, 1, 5), even(100, 32, 1))
	gives(t, "64 values", l, e, even(100, 1, 6))
}

func TestP1_4ConvolveLimits(t *testing.T) {
	l, e := card.Convolve(even(0, 1, 6), even(0, 1, 1))
	fails(t, "65 values", l, e, api.ErrMany)
	l, e = card.Convolve(even(0, 1, 6), even(0, 100, 6))
	fails(t, "4096 values", l, e, api.ErrMany)
	l, e = card.Convolve(even(0, 1, 5), even(0, 1, 5))
	is(t, "63 values", len(l), 63)
	is(t, "error", e, api.OK)
	most := []api.Chance{{Value: 999999999, Weight: "1"}}
	least := []api.Chance{{Value: -999999999, Weight: "1"}}
	one := []api.Chance{{Value: 1, Weight: "1"}}
	l, e = card.Convolve(most, one)
	fails(t, "a value too large", l, e, api.ErrLarge)
	l, e = card.Convolve(least, []api.Chance{{Value: -1, Weight: "1"}})
	fails(t, "a value too small", l, e, api.ErrLarge)
	l, e = card.Convolve(most, least)
	gives(t, "both", l, e, []api.Chance{{Value: 0, Weight: "1"}})
	l, e = card.Convolve([]api.Chance{{Value: 999999998, Weight: "1"}}, one)
	gives(t, "the greatest value", l, e, most)
	l, e = card.Convolve([]api.Chance{{Value: -999999998, Weight: "1"}}, []api.Chance{{Value: -1, Weight: "1"}})
	gives(t, "the least value", l, e, least)
	l, e = card.Convolve(rare(0, 1, 1000), rare(0, 1, 993))
	is(t, "error", e, api.OK)
	is(t, "values", len(l), 3)
	l, e = card.Convolve(rare(0, 1, 1000), rare(0, 1, 1000))
	fails(t, "a weight too large", l, e, api.ErrLarge)
	l, e = card.Convolve(append(even(-999999999, 1, 6)[:63], api.Chance{Value: 999999999, Weight: "1/64"}), even(0, 1, 6))
	fails(t, "many before large", l, e, api.ErrMany)
}

func TestP1_4Atmost(t *testing.T) {
	two, _ := card.Convolve(oneHole(), oneHole())
	for _, x := range []struct {
		n    int
		want api.Rat
	}{{math.MinInt, "0"}, {5, "0"}, {6, "1/16"}, {7, "5/16"}, {8, "11/16"}, {9, "15/16"}, {10, "1"}, {11, "1"}, {math.MaxInt, "1"}} {
		a, e := card.Atmost(two, x.n)
		gives(t, "at most", a, e, x.want)
	}
	a, e := card.Atmost(rare(-5, 5, 1992), -5)
	gives(t, "a rare value", a, e, rare(-5, 5, 1992)[0].Weight)
	a, e = card.Atmost(rare(-5, 5, 1992), 5)
	gives(t, "all values", a, e, "1")
	a, e = card.Atmost([]api.Chance{{Value: -3, Weight: "1/2"}, {Value: 3, Weight: "1/2"}}, 0)
	gives(t, "between", a, e, "1/2")
}

// randomChances returns up to so many rows with weights that are multiples of 1 / 2^k.
func randomChances(random *rand.Rand, rows, k int) []api.Chance {
	rest := power(k)
	var l []api.Chance
	value := random.Intn(20) - 10
	for range rows - 1 {
		part := new(big.Int).Rand(random, rest)
		if part.Sign() == 0 {
			break
		}
		rest = new(big.Int).Sub(rest, part)
		l = append(l, api.Chance{Value: value, Weight: rat(new(big.Rat).SetFrac(part, power(k)))})
		value += 1 + random.Intn(3)
	}
	return append(l, api.Chance{Value: value, Weight: rat(new(big.Rat).SetFrac(rest, power(k)))})
}

func TestP1_4AgreesWithTheLibrary(t *testing.T) {
	random := rand.New(rand.NewSource(8))
	for range 200 {
		a, b := randomChances(random, 1+random.Intn(6), random.Intn(90)), randomChances(random, 1+random.Intn(6), random.Intn(90))
		sums := map[int]*big.Rat{}
		for _, x := range a {
			for _, y := range b {
				part := new(big.Rat).Mul(bigRat(t, x.Weight), bigRat(t, y.Weight))
				if sum := sums[x.Value+y.Value]; sum != nil {
					part.Add(part, sum)
				}
				sums[x.Value+y.Value] = part
			}
		}
		got, e := card.Convolve(a, b)
		is(t, "error", e, api.OK)
		is(t, "rows", len(got), len(sums))
		for i, x := range got {
			is(t, "weight", x.Weight, rat(sums[x.Value]))
			if i > 0 && x.Value <= got[i-1].Value {
				t.Error("the values are not in their order")
			}
		}
		is(t, "check", card.CheckChances(got), api.OK)
		agree(t, got, random.Intn(60)-30)
	}
}

// agree checks the mean, and a chance of at most n.
func agree(t *testing.T, l []api.Chance, n int) {
	t.Helper()
	mean, least := new(big.Rat), new(big.Rat)
	for _, x := range l {
		weight := bigRat(t, x.Weight)
		mean.Add(mean, new(big.Rat).Mul(big.NewRat(int64(x.Value), 1), weight))
		if x.Value <= n {
			least.Add(least, weight)
		}
	}
	a, e := card.Mean(l)
	gives(t, "mean", a, e, rat(mean))
	a, e = card.Atmost(l, n)
	gives(t, "at most", a, e, rat(least))
}
