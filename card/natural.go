package card

import (
	"cmp"
	"math/bits"
	"slices"
	"strconv"
	"strings"
)

// natural is a whole number from 0 on: its words, the lowest one first, the last one not 0.
type natural []uint64

// A chunk is what fits into one word of decimal digits.
const (
	chunkDigits = 19
	chunkBase   = 10000000000000000000
)

func small(x uint64) natural {
	if x == 0 {
		return nil
	}
	return natural{x}
}

// decimal returns the number with these digits.
func decimal(digits string) natural {
	var a natural
	for len(digits) > 0 {
		n := (len(digits)-1)%chunkDigits + 1
		chunk, _ := strconv.ParseUint(digits[:n], 10, 64)
		a = a.times(natural{chunkBase}).plus(small(chunk))
		digits = digits[n:]
	}
	return a
}

func (a natural) text() string {
	var chunks []string
	for len(a) > 1 {
		quotient, rest := a.dividedByWord(chunkBase)
		digits := strconv.FormatUint(rest, 10)
		chunks = append(chunks, strings.Repeat("0", chunkDigits-len(digits))+digits)
		a = quotient
	}
	var text strings.Builder
	text.WriteString(strconv.FormatUint(a.wordFrom(0), 10))
	for i := len(chunks) - 1; i >= 0; i-- {
		text.WriteString(chunks[i])
	}
	return text.String()
}

// trimmed has no words 0 at its end.
func (a natural) trimmed() natural {
	n := len(a)
	for n > 0 && a[n-1] == 0 {
		n--
	}
	return a[:n]
}

func (a natural) bitLength() int {
	if len(a) == 0 {
		return 0
	}
	return 64*len(a) - bits.LeadingZeros64(a[len(a)-1])
}

// wordFrom returns the word that begins at a bit.
func (a natural) wordFrom(bit int) uint64 {
	i, shift := bit/64, bit%64
	var x uint64
	if i < len(a) {
		x = a[i] >> shift
	}
	if i+1 < len(a) {
		x |= a[i+1] << (64 - shift)
	}
	return x
}

func (a natural) isOne() bool {
	return len(a) == 1 && a[0] == 1
}

func (a natural) isPowerOfTwo() bool {
	return len(a) > 0 && a.compare(powerOfTwo(a.bitLength()-1)) == 0
}

func powerOfTwo(exponent int) natural {
	return natural{1}.timesPowerOfTwo(exponent)
}

func (a natural) compare(b natural) int {
	if len(a) != len(b) {
		return cmp.Compare(len(a), len(b))
	}
	for i := len(a) - 1; i >= 0; i-- {
		if a[i] != b[i] {
			return cmp.Compare(a[i], b[i])
		}
	}
	return 0
}

func (a natural) plus(b natural) natural {
	if len(a) < len(b) {
		a, b = b, a
	}
	sum := make(natural, len(a)+1)
	copy(sum, b)
	var carry uint64
	for i, x := range a {
		sum[i], carry = bits.Add64(x, sum[i], carry)
	}
	sum[len(a)] = carry
	return sum.trimmed()
}

// distance returns how far two numbers are apart.
func (a natural) distance(b natural) natural {
	if a.compare(b) < 0 {
		a, b = b, a
	}
	rest := make(natural, len(a))
	copy(rest, b)
	var borrow uint64
	for i, x := range a {
		rest[i], borrow = bits.Sub64(x, rest[i], borrow)
	}
	return rest.trimmed()
}

func (a natural) times(b natural) natural {
	product := make(natural, len(a)+len(b))
	for i, x := range a {
		product[i+len(b)] = addProduct(product[i:i+len(b)], b, x)
	}
	return product.trimmed()
}

// addProduct adds x times b to as many words, and returns the carry.
func addProduct(words, b []uint64, x uint64) uint64 {
	var carry uint64
	for i, y := range b {
		high, low := bits.Mul64(x, y)
		low, more := bits.Add64(low, carry, 0)
		high += more
		words[i], more = bits.Add64(words[i], low, 0)
		carry = high + more
	}
	return carry
}

// subtractProduct subtracts x times b from as many words, and returns the borrow.
func subtractProduct(words, b []uint64, x uint64) uint64 {
	var borrow uint64
	for i, y := range b {
		high, low := bits.Mul64(x, y)
		low, more := bits.Add64(low, borrow, 0)
		high += more
		words[i], more = bits.Sub64(words[i], low, 0)
		borrow = high + more
	}
	return borrow
}

func (a natural) timesPowerOfTwo(exponent int) natural {
	skip, shift := exponent/64, exponent%64
	product := make(natural, len(a)+skip+1)
	for i, x := range a {
		product[skip+i] |= x << shift
		product[skip+i+1] = x >> (64 - shift)
	}
	return product.trimmed()
}

// halved returns the quotient of a number and a power of two below a word.
func (a natural) halved(times int) natural {
	quotient := make(natural, len(a))
	for i := range a {
		quotient[i] = a.wordFrom(64*i + times)
	}
	return quotient.trimmed()
}

func (a natural) dividedByWord(divisor uint64) (natural, uint64) {
	quotient := make(natural, len(a))
	var rest uint64
	for i := len(a) - 1; i >= 0; i-- {
		quotient[i], rest = bits.Div64(rest, a[i], divisor)
	}
	return quotient.trimmed(), rest
}

// divided returns the quotient and the remainder of a number and one that is not 0.
func (a natural) divided(b natural) (natural, natural) {
	if a.compare(b) < 0 {
		return nil, a
	}
	if len(b) == 1 {
		quotient, rest := a.dividedByWord(b[0])
		return quotient, small(rest)
	}
	// The guesses of dividedOnce are good enough only if the divisor has its highest bit.
	shift := bits.LeadingZeros64(b[len(b)-1])
	divisor := b.timesPowerOfTwo(shift)
	rest := make(natural, len(a)+1)
	copy(rest, a.timesPowerOfTwo(shift))
	quotient := make(natural, len(a)-len(b)+1)
	for i := len(quotient) - 1; i >= 0; i-- {
		quotient[i] = dividedOnce(rest[i:i+len(b)+1], divisor)
	}
	return quotient.trimmed(), rest.trimmed().halved(shift)
}

// dividedOnce returns the quotient, which is a single word, and leaves the remainder in the words.
func dividedOnce(words, divisor []uint64) uint64 {
	n := len(divisor)
	digit := guess(words[n-2:], divisor[n-2:])
	borrow := subtractProduct(words[:n], divisor, digit)
	if words[n] < borrow {
		digit--
		var carry uint64
		for i, x := range divisor {
			words[i], carry = bits.Add64(words[i], x, carry)
		}
	}
	words[n] = 0
	return digit
}

// guess returns a quotient by the three highest words and the two highest words of the divisor: it is right, or one too great.
func guess(words, divisor []uint64) uint64 {
	if words[2] >= divisor[1] {
		// As the divisor has its highest bit, the quotient is the greatest word, or one less.
		return ^uint64(0)
	}
	digit, rest := bits.Div64(words[2], words[1], divisor[1])
	for over := uint64(0); over == 0; {
		high, low := bits.Mul64(digit, divisor[0])
		if high < rest || high == rest && low <= words[0] {
			break
		}
		digit--
		rest, over = bits.Add64(rest, divisor[1], 0)
	}
	return digit
}

// commonDivisor returns the greatest common divisor; that of 0 and a number is this number.
func commonDivisor(a, b natural) natural {
	if a.compare(b) < 0 {
		a, b = b, a
	}
	if len(b) > 1 {
		a, b = shortened(slices.Clone(a), slices.Clone(b))
	}
	if len(b) == 0 {
		return a
	}
	_, y := a.dividedByWord(b[0])
	x := b[0]
	for y != 0 {
		x, y = y, x%y
	}
	return small(x)
}

// shortened returns two numbers, the lesser one of at most one word, with the same greatest common divisor. It overwrites its arguments.
func shortened(a, b natural) (natural, natural) {
	var spareA, spareB natural
	for len(b) > 1 {
		s := leadingSteps(a, b)
		if !s.useful() {
			_, rest := a.divided(b)
			a, b = b, rest
			continue
		}
		nextA, nextB := resized(spareA, len(a)), resized(spareB, len(a))
		s.take(nextA, nextB, a, b)
		spareA, spareB = a, b
		a, b = nextA.trimmed(), nextB.trimmed()
	}
	return a, b
}

// resized returns words of a number that is needed no longer, or new ones.
func resized(words natural, n int) natural {
	return slices.Grow(words[:0], n)[:n]
}

// steps are some steps of Euclid's algorithm at once. With a and b they leave the differences of a*a0 and b*b0, and of a*a1 and b*b1; of the first one b*b0 is the greater part if their number is odd, of the second one if it is even.
type steps struct {
	a0, b0, a1, b1 uint64
	odd            bool
}

// leadingSteps returns those steps that are certain by the highest word of a, and by as much of b (Lehmer's method, with the condition of Collins).
func leadingSteps(a, b natural) steps {
	bit := a.bitLength() - 64
	x, y := a.wordFrom(bit), b.wordFrom(bit)
	s := steps{a0: 1, b1: 1}
	certain := s
	for y >= s.b1 && x-y >= s.b0+s.b1 {
		certain = s
		quotient := x / y
		x, y = y, x%y
		s = steps{s.a1, s.b1, s.a0 + quotient*s.a1, s.b0 + quotient*s.b1, !s.odd}
	}
	return certain
}

func (s steps) useful() bool {
	return s.b0 != 0
}

// take puts what the steps leave into as many words as a has.
func (s steps) take(nextA, nextB, a, b natural) {
	if s.odd {
		putDifference(nextA, b, s.b0, a, s.a0)
		putDifference(nextB, a, s.a1, b, s.b1)
	} else {
		putDifference(nextA, a, s.a0, b, s.b0)
		putDifference(nextB, b, s.b1, a, s.a1)
	}
}

// putDifference puts a*x - b*y, which is not below 0, into some words; both carries cancel each other at the end.
func putDifference(words, a natural, x uint64, b natural, y uint64) {
	var carryA, carryB, borrow uint64
	for i := range words {
		var low, other uint64
		carryA, low = multiplied(a, i, x, carryA)
		carryB, other = multiplied(b, i, y, carryB)
		words[i], borrow = bits.Sub64(low, other, borrow)
	}
}

// multiplied returns x times the word i of a number, and a carry, as two words.
func multiplied(a natural, i int, x, carry uint64) (uint64, uint64) {
	if i >= len(a) {
		return 0, carry
	}
	high, low := bits.Mul64(a[i], x)
	low, more := bits.Add64(low, carry, 0)
	return high + more, low
}
