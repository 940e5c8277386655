package card

import (
	"strings"

	"niblick/api"
)

// whole is a whole number; 0 is not negative.
type whole struct {
	negative bool
	size     natural
}

func wholeOf(n int) whole {
	if n < 0 {
		// Unsigned, even the least int has its counterpart.
		return whole{true, small(-uint64(n))}
	}
	return whole{false, small(uint64(n))}
}

func (a whole) isZero() bool {
	return len(a.size) == 0
}

func (a whole) sign() int {
	switch {
	case a.isZero():
		return 0
	case a.negative:
		return -1
	}
	return 1
}

func (a whole) negated() whole {
	return whole{!a.negative && !a.isZero(), a.size}
}

func (a whole) plus(b whole) whole {
	if a.negative == b.negative {
		return whole{a.negative, a.size.plus(b.size)}
	}
	size := a.size.distance(b.size)
	greater := a
	if a.size.compare(b.size) < 0 {
		greater = b
	}
	return whole{greater.negative && len(size) > 0, size}
}

func (a whole) minus(b whole) whole {
	return a.plus(b.negated())
}

func (a whole) times(b whole) whole {
	size := a.size.times(b.size)
	return whole{a.negative != b.negative && len(size) > 0, size}
}

// floor returns the greatest whole number that is at most a divided by b.
func (a whole) floor(b natural) whole {
	quotient, rest := a.size.divided(b)
	if a.negative && len(rest) > 0 {
		quotient = quotient.plus(small(1))
	}
	return whole{a.negative, quotient}
}

// Fraction is a rational number in lowest terms, of any size. MaxDigits bounds arguments and results only, so this is what the packages above compute with on the way to a result. The zero value is the number 0.
type Fraction struct {
	num whole
	den natural
}

// ratio returns the fraction of a number and one above 0.
func ratio(num whole, den natural) Fraction {
	common := commonDivisor(num.size, den)
	if !common.isOne() {
		num.size, _ = num.size.divided(common)
		den, _ = den.divided(common)
	}
	return Fraction{num, den}
}

func fractionOf(num, den int) Fraction {
	return Integer(num).Over(Integer(den))
}

// Integer returns an integer as a fraction.
func Integer(n int) Fraction {
	return Fraction{wholeOf(n), small(1)}
}

// bottom returns the denominator, which the zero value does not have.
func (a Fraction) bottom() natural {
	if len(a.den) == 0 {
		return small(1)
	}
	return a.den
}

// Plus returns the sum. What the sum can be reduced by divides both denominators, and the common divisors of those are found sooner than those of the sum.
func (a Fraction) Plus(b Fraction) Fraction {
	common := commonDivisor(a.bottom(), b.bottom())
	x, _ := a.bottom().divided(common)
	y, _ := b.bottom().divided(common)
	sum := ratio(a.num.times(whole{size: y}).plus(b.num.times(whole{size: x})), common)
	return Fraction{sum.num, x.times(y).times(sum.den)}
}

// Minus returns the difference.
func (a Fraction) Minus(b Fraction) Fraction {
	return a.Plus(Fraction{b.num.negated(), b.den})
}

// Times returns the product, where what is above is reduced with what is below the other one.
func (a Fraction) Times(b Fraction) Fraction {
	x, y := ratio(a.num, b.bottom()), ratio(b.num, a.bottom())
	return Fraction{x.num.times(y.num), x.den.times(y.den)}
}

// Over returns the quotient, or 0 if b is 0.
func (a Fraction) Over(b Fraction) Fraction {
	if b.num.isZero() {
		return Fraction{}
	}
	return a.Times(Fraction{whole{b.num.negative, b.bottom()}, b.num.size})
}

// Compare returns -1, 0 or 1, as a is less than, equal to, or greater than b.
func (a Fraction) Compare(b Fraction) int {
	return a.num.times(whole{size: b.bottom()}).minus(b.num.times(whole{size: a.bottom()})).sign()
}

// Floor returns the greatest integer that is at most a.
func (a Fraction) Floor() Fraction {
	return Fraction{a.num.floor(a.bottom()), small(1)}
}

// Denominator returns what is below in lowest terms.
func (a Fraction) Denominator() Fraction {
	return Fraction{whole{size: a.bottom()}, small(1)}
}

func isInteger(digits string) bool {
	return digits == "0" || digits != "" && digits[0] != '0' && strings.Trim(digits, "0123456789") == ""
}

// Read returns the number with a text, or its first error.
func Read(a api.Rat) (Fraction, api.Errno) {
	top, bottom, split := strings.Cut(string(a), "/")
	digits, negative := strings.CutPrefix(top, "-")
	switch {
	case !isInteger(digits), negative && digits == "0",
		split && (!isInteger(bottom) || bottom == "0" || bottom == "1"):
		return Fraction{}, api.ErrForm
	case len(digits) > api.MaxDigits, len(bottom) > api.MaxDigits:
		return Fraction{}, api.ErrLarge
	case !split:
		bottom = "1"
	}
	x := Fraction{whole{negative, decimal(digits)}, decimal(bottom)}
	if !commonDivisor(x.num.size, x.den).isOne() {
		return Fraction{}, api.ErrForm
	}
	return x, api.OK
}

// readAll returns the numbers of a list, or the error of the first one with one.
func readAll(l []api.Rat) ([]Fraction, api.Errno) {
	numbers := make([]Fraction, len(l))
	for i, a := range l {
		x, e := Read(a)
		if e != api.OK {
			return nil, e
		}
		numbers[i] = x
	}
	return numbers, api.OK
}

// Rat returns the text of a number, unless it has too many digits.
func (a Fraction) Rat() (api.Rat, api.Errno) {
	den := a.bottom()
	// A digit has less than 10/3 bits, and very long numbers take long to print.
	if max(a.num.size.bitLength(), den.bitLength()) > api.MaxDigits*10/3 {
		return "", api.ErrLarge
	}
	top, bottom := a.num.size.text(), den.text()
	if max(len(top), len(bottom)) > api.MaxDigits {
		return "", api.ErrLarge
	}
	if a.num.negative {
		top = "-" + top
	}
	if den.isOne() {
		return api.Rat(top), api.OK
	}
	return api.Rat(top + "/" + bottom), api.OK
}
