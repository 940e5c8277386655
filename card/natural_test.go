package card

import (
	"math/big"
	"math/rand"
	"testing"
)

// bigOf returns a natural as a number of the library.
func bigOf(a natural) *big.Int {
	x := new(big.Int)
	for i := len(a) - 1; i >= 0; i-- {
		x.Lsh(x, 64).Or(x, new(big.Int).SetUint64(a[i]))
	}
	return x
}

// randomNatural has words that are often at a limit, where carries and guesses are too.
func randomNatural(random *rand.Rand, most int) natural {
	limits := []uint64{0, 1, 1<<63 - 1, 1 << 63, 1<<63 + 1, 1<<64 - 2, 1<<64 - 1}
	a := make(natural, random.Intn(most+1))
	for i := range a {
		if random.Intn(3) > 0 {
			a[i] = limits[random.Intn(len(limits))]
		} else {
			a[i] = random.Uint64() >> random.Intn(64)
		}
	}
	return a.trimmed()
}

func same(t *testing.T, what string, got natural, want *big.Int) {
	t.Helper()
	if bigOf(got).Cmp(want) != 0 {
		t.Fatalf("%s: got %v, want %v", what, bigOf(got), want)
	}
	if len(got) > 0 && got[len(got)-1] == 0 {
		t.Fatalf("%s: the highest word of %v is 0", what, got)
	}
}

func TestNaturalsAgreeWithTheLibrary(t *testing.T) {
	random := rand.New(rand.NewSource(1))
	for range 20000 {
		a, b := randomNatural(random, 12), randomNatural(random, 8)
		x, y := bigOf(a), bigOf(b)
		same(t, "sum", a.plus(b), new(big.Int).Add(x, y))
		same(t, "distance", a.distance(b), new(big.Int).Abs(new(big.Int).Sub(x, y)))
		same(t, "product", a.times(b), new(big.Int).Mul(x, y))
		if a.compare(b) != x.Cmp(y) {
			t.Fatalf("compare %v and %v", x, y)
		}
		if a.bitLength() != x.BitLen() {
			t.Fatalf("bits of %v", x)
		}
		n := random.Intn(200)
		same(t, "shift", a.timesPowerOfTwo(n), new(big.Int).Lsh(x, uint(n)))
		if len(b) == 0 {
			continue
		}
		quotient, rest := a.divided(b)
		q, r := new(big.Int).QuoRem(x, y, new(big.Int))
		same(t, "quotient", quotient, q)
		same(t, "remainder", rest, r)
	}
}

// TestDivisionAtLimits has short numbers, so that the guesses of quotients are wrong as often as possible.
func TestDivisionAtLimits(t *testing.T) {
	random := rand.New(rand.NewSource(18))
	for range 200000 {
		a, b := randomNatural(random, 5), randomNatural(random, 3)
		if len(b) < 2 {
			continue
		}
		quotient, rest := a.divided(b)
		q, r := new(big.Int).QuoRem(bigOf(a), bigOf(b), new(big.Int))
		same(t, "quotient", quotient, q)
		same(t, "remainder", rest, r)
	}
}

func TestDivisionOfProducts(t *testing.T) {
	random := rand.New(rand.NewSource(2))
	for range 20000 {
		a, b := randomNatural(random, 6), randomNatural(random, 6)
		if len(b) == 0 {
			continue
		}
		quotient, rest := a.times(b).divided(b)
		same(t, "quotient", quotient, bigOf(a))
		same(t, "remainder", rest, new(big.Int))
		if len(a) > 0 {
			less := a.times(b).distance(small(1))
			q, r := new(big.Int).QuoRem(bigOf(less), bigOf(b), new(big.Int))
			quotient, rest = less.divided(b)
			same(t, "quotient", quotient, q)
			same(t, "remainder", rest, r)
		}
	}
}

func TestDecimalsAgreeWithTheLibrary(t *testing.T) {
	random := rand.New(rand.NewSource(3))
	for range 2000 {
		a := randomNatural(random, 40)
		text := bigOf(a).String()
		if a.text() != text {
			t.Fatalf("text: got %s, want %s", a.text(), text)
		}
		same(t, "decimal", decimal(text), bigOf(a))
	}
	for _, text := range []string{"0", "9999999999999999999", "10000000000000000000", "10000000000000000001", "100000000000000000000000000000000000000"} {
		if decimal(text).text() != text {
			t.Errorf("%s became %s", text, decimal(text).text())
		}
	}
}

func TestCommonDivisorsAgreeWithTheLibrary(t *testing.T) {
	random := rand.New(rand.NewSource(4))
	for range 10000 {
		a, b, c := randomNatural(random, 20), randomNatural(random, 20), randomNatural(random, 10)
		a, b = a.times(c), b.times(c)
		x, y := bigOf(a), bigOf(b)
		same(t, "common divisor", commonDivisor(a, b), new(big.Int).GCD(nil, nil, x, y))
		if bigOf(a).Cmp(x) != 0 || bigOf(b).Cmp(y) != 0 {
			t.Fatal("an argument was changed")
		}
	}
	// Neighbours in the sequence of Fibonacci need the most steps.
	a, b := small(1), small(1)
	for range 3000 {
		a, b = a.plus(b), a
	}
	same(t, "neighbours", commonDivisor(a, b), big.NewInt(1))
}

func TestPowersOfTwo(t *testing.T) {
	for n := range 300 {
		a := powerOfTwo(n)
		same(t, "power", a, new(big.Int).Lsh(big.NewInt(1), uint(n)))
		if !a.isPowerOfTwo() {
			t.Errorf("2^%d is none", n)
		}
		if n > 0 && a.plus(small(1)).isPowerOfTwo() {
			t.Errorf("2^%d + 1 is one", n)
		}
	}
	if small(0).isPowerOfTwo() {
		t.Error("0 is one")
	}
}
