package card

import (
	"strings"

	"niblick/api"
)

// whole is a whole number; 0 is not negative.
type whole struct {
	negative bool
	size     natural
}

func wholeOf(n int) whole {
	if n < 0 {
		// Unsigned, even the least int has its counterpart.
		return whole{true, small(-uint64(n))}
	}
	return whole{false, small(uint64(n))}
}

func (a whole) isZero() bool {
	return len(a.size) == 0
}

func (a whole) sign() int {
	switch {
	case a.isZero():
		return 0
	case a.negative:
		return -1
	}
	return 1
}

func (a whole) negated() whole {
	return whole{!a.negative && !a.isZero(), a.size}
}

func (a whole) plus(b whole) whole {
	if a.negative == b.negative {
		return whole{a.negative, a.size.plus(b.size)}
	}
	size := a.size.distance(b.size)
	greater := a
	if a.size.compare(b.size) < 0 {
		greater = b
	}
	return whole{greater.negative && len(size) > 0, size}
}

func (a whole) minus(b whole) whole {
	return a.plus(b.negated())
}

func (a whole) times(b whole) whole {
	size := a.size.times(b.size)
	return whole{a.negative != b.negative && len(size) > 0, size}
}

// floor returns the greatest whole number that is at most a divided by b.
func (a whole) floor(b natural) whole {
	quotient, rest := a.size.divided(b)
	if a.negative && len(rest) > 0 {
		quotient = quotient.plus(small(1))
	}
	return whole{a.negative, quotient}
}

// fraction is a rational number in lowest terms.
type fraction struct {
	num whole
	den natural
}

// ratio returns the fraction of a number and one above 0.
func ratio(num whole, den natural) fraction {
	common := commonDivisor(num.size, den)
	if !common.isOne() {
		num.size, _ = num.size.divided(common)
		den, _ = den.divided(common)
	}
	return fraction{num, den}
}

func fractionOf(num, den int) fraction {
	x, y := wholeOf(num), wholeOf(den)
	return ratio(x.times(whole{y.negative, small(1)}), y.size)
}

func (a fraction) plus(b fraction) fraction {
	num := a.num.times(whole{size: b.den}).plus(b.num.times(whole{size: a.den}))
	return ratio(num, a.den.times(b.den))
}

func (a fraction) minus(b fraction) fraction {
	return a.plus(fraction{b.num.negated(), b.den})
}

func (a fraction) times(b fraction) fraction {
	return ratio(a.num.times(b.num), a.den.times(b.den))
}

// over divides by a number that is not 0.
func (a fraction) over(b fraction) fraction {
	return a.times(fraction{whole{b.num.negative, b.den}, b.num.size})
}

func (a fraction) compare(b fraction) int {
	return a.num.times(whole{size: b.den}).minus(b.num.times(whole{size: a.den})).sign()
}

func isInteger(digits string) bool {
	return digits == "0" || digits != "" && digits[0] != '0' && strings.Trim(digits, "0123456789") == ""
}

// read returns the number with a text, or its first error.
func read(a api.Rat) (fraction, api.Errno) {
	top, bottom, split := strings.Cut(string(a), "/")
	digits, negative := strings.CutPrefix(top, "-")
	switch {
	case !isInteger(digits), negative && digits == "0",
		split && (!isInteger(bottom) || bottom == "0" || bottom == "1"):
		return fraction{}, api.ErrForm
	case len(digits) > api.MaxDigits, len(bottom) > api.MaxDigits:
		return fraction{}, api.ErrLarge
	case !split:
		bottom = "1"
	}
	x := fraction{whole{negative, decimal(digits)}, decimal(bottom)}
	if !commonDivisor(x.num.size, x.den).isOne() {
		return fraction{}, api.ErrForm
	}
	return x, api.OK
}

// readAll returns the numbers of a list, or the error of the first one with one.
func readAll(l []api.Rat) ([]fraction, api.Errno) {
	numbers := make([]fraction, len(l))
	for i, a := range l {
		x, e := read(a)
		if e != api.OK {
			return nil, e
		}
		numbers[i] = x
	}
	return numbers, api.OK
}

// text returns the text of a number, unless it has too many digits.
func (a fraction) text() (api.Rat, api.Errno) {
	// A digit has less than 10/3 bits, and very long numbers take long to print.
	if max(a.num.size.bitLength(), a.den.bitLength()) > api.MaxDigits*10/3 {
		return "", api.ErrLarge
	}
	top, bottom := a.num.size.text(), a.den.text()
	if max(len(top), len(bottom)) > api.MaxDigits {
		return "", api.ErrLarge
	}
	if a.num.negative {
		top = "-" + top
	}
	if a.den.isOne() {
		return api.Rat(top), api.OK
	}
	return api.Rat(top + "/" + bottom), api.OK
}
