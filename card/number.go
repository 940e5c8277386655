package card

import (
	"math/bits"

	"niblick/api"
)

// A yard is 1143/1250 metres.
const (
	yardTop    = 1143
	yardBottom = 1250
)

// Check returns the first error of a number, or OK.
func Check(a api.Rat) api.Errno {
	_, e := Read(a)
	return e
}

// Of returns num / den.
func Of(num, den int) (api.Rat, api.Errno) {
	if den == 0 {
		return "", api.ErrZero
	}
	return fractionOf(num, den).Rat()
}

// Add returns the sum.
func Add(a, b api.Rat) (api.Rat, api.Errno) {
	return compute(a, b, Fraction.Plus)
}

// Sub returns the difference.
func Sub(a, b api.Rat) (api.Rat, api.Errno) {
	return compute(a, b, Fraction.Minus)
}

// Mul returns the product.
func Mul(a, b api.Rat) (api.Rat, api.Errno) {
	return compute(a, b, Fraction.Times)
}

// Div returns the quotient.
func Div(a, b api.Rat) (api.Rat, api.Errno) {
	x, y, e := readTwo(a, b)
	if e = first(e, unless(!y.num.isZero(), api.ErrZero)); e != api.OK {
		return "", e
	}
	return x.Over(y).Rat()
}

// Compare returns -1, 0 or 1.
func Compare(a, b api.Rat) (int, api.Errno) {
	x, y, e := readTwo(a, b)
	if e != api.OK {
		return 0, e
	}
	return x.Compare(y), api.OK
}

// Round returns the nearest multiple of a unit, halves upwards.
func Round(a, unit api.Rat) (api.Rat, api.Errno) {
	x, y, e := readTwo(a, unit)
	if e = first(e, unless(y.num.sign() > 0, api.ErrRange)); e != api.OK {
		return "", e
	}
	return x.Over(y).Plus(fractionOf(1, 2)).Floor().Times(y).Rat()
}

// Root returns the integer part of a square root.
func Root(n int) (int, api.Errno) {
	if n < 0 {
		return 0, api.ErrRange
	}
	if n == 0 {
		return 0, api.OK
	}
	// Newton's steps from above fall until they have arrived.
	root := 1 << ((bits.Len(uint(n)) + 1) / 2)
	for n/root < root {
		root = (root + n/root) / 2
	}
	return root, api.OK
}

// Yards returns metres in yards.
func Yards(metres api.Rat) (api.Rat, api.Errno) {
	return scaled(metres, yardBottom, yardTop)
}

// Metres returns yards in metres.
func Metres(yards api.Rat) (api.Rat, api.Errno) {
	return scaled(yards, yardTop, yardBottom)
}

func readTwo(a, b api.Rat) (x, y Fraction, e api.Errno) {
	x, e = Read(a)
	if e == api.OK {
		y, e = Read(b)
	}
	return x, y, e
}

// compute returns the result of an operation on two numbers.
func compute(a, b api.Rat, operation func(x, y Fraction) Fraction) (api.Rat, api.Errno) {
	x, y, e := readTwo(a, b)
	if e != api.OK {
		return "", e
	}
	return operation(x, y).Rat()
}

// scaled returns a number times num / den.
func scaled(a api.Rat, num, den int) (api.Rat, api.Errno) {
	x, e := Read(a)
	if e != api.OK {
		return "", e
	}
	return x.Times(fractionOf(num, den)).Rat()
}
