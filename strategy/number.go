package strategy

import (
	"niblick/api"
	"niblick/card"
)

// counted are numbers as multiples of a unit that all of them and 1 are multiples of. Sums and products of these integers need not be reduced, which takes long for long numbers.
type counted struct {
	one   card.Fraction
	times []card.Fraction
}

func count(l []card.Fraction) counted {
	one := units(l...)
	return counted{one, eachOf(l, func(_ int, x card.Fraction) card.Fraction { return x.Times(one) })}
}

// units returns the least number whose products with some numbers are integers.
func units(l ...card.Fraction) card.Fraction {
	one := card.Integer(1)
	for _, x := range l {
		one = one.Times(one.Times(x).Denominator())
	}
	return one
}

// readEach returns what the elements of a list are read as, or the error of the first one with one.
func readEach[A, B any](l []A, read func(x A) (B, api.Errno)) ([]B, api.Errno) {
	numbers := make([]B, len(l))
	for i, x := range l {
		number, e := read(x)
		if e != api.OK {
			return nil, e
		}
		numbers[i] = number
	}
	return numbers, api.OK
}

// writeEach returns the texts of numbers, unless one of them is too large.
func writeEach(l []card.Fraction) ([]api.Rat, api.Errno) {
	return readEach(l, card.Fraction.Rat)
}

// firstBest returns the number of the first element that no other one is better than.
func firstBest[T any](l []T, better func(a, b T) bool) int {
	best := 0
	for i, x := range l {
		if better(x, l[best]) {
			best = i
		}
	}
	return best
}

func isLess(a, b card.Fraction) bool {
	return a.Compare(b) < 0
}

func isGreater(a, b card.Fraction) bool {
	return a.Compare(b) > 0
}
