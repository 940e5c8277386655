package card

import (
	"maps"
	"slices"

	"niblick/api"
)

// odds are chances whose weights are parts of one power of 2.
type odds struct {
	values   []int
	parts    []natural
	exponent int
}

// CheckChances returns the first error of chances, or OK.
func CheckChances(l []api.Chance) api.Errno {
	_, e := readChances(l)
	return e
}

func readChances(l []api.Chance) (odds, api.Errno) {
	if e := sized(l, api.MaxChances); e != api.OK {
		return odds{}, e
	}
	weights := make([]Fraction, len(l))
	for i, c := range l {
		x, e := readChance(c)
		if e == api.OK && i > 0 {
			e = unless(c.Value > l[i-1].Value, api.ErrOrder)
		}
		if e != api.OK {
			return odds{}, e
		}
		weights[i] = x
	}
	o := oddsOf(l, weights)
	if sumOfParts(o.parts...).compare(powerOfTwo(o.exponent)) != 0 {
		return odds{}, api.ErrSum
	}
	return o, api.OK
}

// readChance returns the weight of a row, or the first error that the row has by itself.
func readChance(c api.Chance) (Fraction, api.Errno) {
	if e := within(c.Value, -api.MaxNumber, api.MaxNumber); e != api.OK {
		return Fraction{}, e
	}
	weight, e := Read(c.Weight)
	if e != api.OK {
		return Fraction{}, e
	}
	e = first(unless(weight.num.sign() > 0, api.ErrRange), unless(weight.den.isPowerOfTwo(), api.ErrForm))
	if e != api.OK {
		return Fraction{}, e
	}
	return weight, api.OK
}

func oddsOf(l []api.Chance, weights []Fraction) odds {
	var o odds
	for _, weight := range weights {
		o.exponent = max(o.exponent, exponentOf(weight))
	}
	for i, weight := range weights {
		o.values = append(o.values, l[i].Value)
		o.parts = append(o.parts, weight.num.size.timesPowerOfTwo(o.exponent-exponentOf(weight)))
	}
	return o
}

// exponentOf returns the exponent of a denominator that is a power of 2.
func exponentOf(weight Fraction) int {
	return weight.den.bitLength() - 1
}

func sumOfParts(parts ...natural) natural {
	var sum natural
	for _, part := range parts {
		sum = sum.plus(part)
	}
	return sum
}

// Mean returns the mean of chances.
func Mean(l []api.Chance) (api.Rat, api.Errno) {
	o, e := readChances(l)
	if e != api.OK {
		return "", e
	}
	var sum whole
	for i, value := range o.values {
		sum = sum.plus(wholeOf(value).times(whole{size: o.parts[i]}))
	}
	return ratio(sum, powerOfTwo(o.exponent)).Rat()
}

// Convolve returns the chances of the sum of two independent values.
func Convolve(a, b []api.Chance) ([]api.Chance, api.Errno) {
	x, e := readChances(a)
	if e != api.OK {
		return nil, e
	}
	y, e := readChances(b)
	if e != api.OK {
		return nil, e
	}
	sums := map[int]natural{}
	for i, value := range x.values {
		for j, other := range y.values {
			sums[value+other] = sums[value+other].plus(x.parts[i].times(y.parts[j]))
		}
	}
	if len(sums) > api.MaxChances {
		return nil, api.ErrMany
	}
	return chancesOf(sums, x.exponent+y.exponent)
}

// chancesOf returns the chances by values, unless a number is too large.
func chancesOf(parts map[int]natural, exponent int) ([]api.Chance, api.Errno) {
	var l []api.Chance
	for _, value := range slices.Sorted(maps.Keys(parts)) {
		weight, e := ratio(whole{size: parts[value]}, powerOfTwo(exponent)).Rat()
		if e != api.OK || value < -api.MaxNumber || value > api.MaxNumber {
			return nil, api.ErrLarge
		}
		l = append(l, api.Chance{Value: value, Weight: weight})
	}
	return l, api.OK
}

// Atmost returns the chance of values up to a number.
func Atmost(l []api.Chance, n int) (api.Rat, api.Errno) {
	o, e := readChances(l)
	if e != api.OK {
		return "", e
	}
	var sum natural
	for i, value := range o.values {
		if value <= n {
			sum = sum.plus(o.parts[i])
		}
	}
	return ratio(whole{size: sum}, powerOfTwo(o.exponent)).Rat()
}
