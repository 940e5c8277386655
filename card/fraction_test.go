package card

import (
	"math"
	"math/big"
	"math/rand"
	"testing"

	"niblick/api"
)

// bigRatOf returns a fraction as a number of the library.
func bigRatOf(a Fraction) *big.Rat {
	num := bigOf(a.num.size)
	if a.num.negative {
		num.Neg(num)
	}
	return new(big.Rat).SetFrac(num, bigOf(a.bottom()))
}

// randomFraction has up to 20 words above and below, often with common divisors of those of other ones.
func randomFraction(random *rand.Rand) Fraction {
	den := randomNatural(random, 20)
	switch random.Intn(4) {
	case 0:
		den = small(uint64(1 + random.Intn(12)))
	case 1:
		den = powerOfTwo(random.Intn(200))
	}
	if len(den) == 0 {
		return Fraction{}
	}
	size := randomNatural(random, 20)
	return ratio(whole{random.Intn(2) == 0 && len(size) > 0, size}, den)
}

// equal checks a fraction, which has to be in lowest terms, as the library has it.
func equal(t *testing.T, what string, got Fraction, want *big.Rat) {
	t.Helper()
	if got.num.negative != (want.Sign() < 0) {
		t.Fatalf("%s: the sign of %v", what, want)
	}
	same(t, what, got.num.size, new(big.Int).Abs(want.Num()))
	same(t, what, got.bottom(), want.Denom())
}

func TestFractionsAgreeWithTheLibrary(t *testing.T) {
	random := rand.New(rand.NewSource(19))
	for range 5000 {
		a, b := randomFraction(random), randomFraction(random)
		switch random.Intn(8) {
		case 0:
			b = a
		case 1:
			b = Fraction{a.num.negated(), a.den}
		}
		x, y := bigRatOf(a), bigRatOf(b)
		equal(t, "sum", a.Plus(b), new(big.Rat).Add(x, y))
		equal(t, "difference", a.Minus(b), new(big.Rat).Sub(x, y))
		equal(t, "product", a.Times(b), new(big.Rat).Mul(x, y))
		equal(t, "denominator", a.Denominator(), new(big.Rat).SetInt(x.Denom()))
		if y.Sign() != 0 {
			equal(t, "quotient", a.Over(b), new(big.Rat).Quo(x, y))
		}
		if a.Compare(b) != x.Cmp(y) {
			t.Fatalf("compare %v and %v", x, y)
		}
		// With a divisor above 0, Div rounds downwards.
		equal(t, "floor", a.Floor(), new(big.Rat).SetInt(new(big.Int).Div(x.Num(), x.Denom())))
		equal(t, "the argument", a, x)
		equal(t, "the argument", b, y)
	}
}

func TestFractionsOfNothing(t *testing.T) {
	var none Fraction
	three := Integer(3)
	for _, x := range []struct {
		what string
		got  Fraction
		want int64
	}{
		{"0 + 0", none.Plus(none), 0}, {"0 + 3", none.Plus(three), 3}, {"3 + 0", three.Plus(none), 3},
		{"0 - 0", none.Minus(none), 0}, {"0 - 3", none.Minus(three), -3}, {"3 - 0", three.Minus(none), 3},
		{"0 * 0", none.Times(none), 0}, {"0 * 3", none.Times(three), 0}, {"3 * 0", three.Times(none), 0},
		{"0 / 0", none.Over(none), 0}, {"0 / 3", none.Over(three), 0}, {"3 / 0", three.Over(none), 0}, {"3 / (3 - 3)", three.Over(three.Minus(three)), 0},
		{"the denominator of 0", none.Denominator(), 1}, {"the denominator of 3", three.Denominator(), 1}, {"the floor of 0", none.Floor(), 0}, {"the floor of 3", three.Floor(), 3}, {"the value of no table", Table{}.At(three), 0},
		{"the least integer", Integer(math.MinInt), math.MinInt}, {"the greatest integer", Integer(math.MaxInt), math.MaxInt},
	} {
		equal(t, x.what, x.got, big.NewRat(x.want, 1))
	}
	if none.Compare(none) != 0 || none.Compare(three) != -1 || three.Compare(none) != 1 {
		t.Error("comparisons with 0")
	}
	if text, e := none.Rat(); text != "0" || e != api.OK {
		t.Errorf("the text of 0: %q and the error %d", text, e)
	}
}

// What comes on the way to a number may have any size, but a number may not.
func TestFractionsBeyondTheLimit(t *testing.T) {
	ten := Integer(10)
	power := Integer(1)
	for range api.MaxDigits {
		power = power.Times(ten)
	}
	for _, a := range []Fraction{power, Integer(1).Over(power), power.Times(power), Integer(0).Minus(power)} {
		if text, e := a.Rat(); text != "" || e != api.ErrLarge {
			t.Errorf("%q and the error %d", text, e)
		}
	}
	text, e := power.Minus(Integer(1)).Rat()
	if len(text) != api.MaxDigits || e != api.OK {
		t.Errorf("%q and the error %d", text, e)
	}
	again, e := Read(text)
	if e != api.OK || again.Compare(power) != -1 {
		t.Errorf("the error %d", e)
	}
	table, e := ReadTable([]api.Point{{X: "0", Y: "0"}, {X: text, Y: "1"}})
	if e != api.OK {
		t.Errorf("the error %d", e)
	}
	equal(t, "between", table.At(Integer(1).Over(power)), bigRatOf(Integer(1).Over(power).Over(again)))
	equal(t, "behind", table.At(power.Times(power)), big.NewRat(1, 1))
	if table, e := ReadTable([]api.Point{{X: "0", Y: "x"}}); len(table.points) != 0 || e != api.ErrForm {
		t.Errorf("%v and the error %d", table, e)
	}
}
