package card_test

import (
	"math/big"
	"math/rand"
	"reflect"
	"strings"
	"testing"

	"niblick/api"
)

// is compares a result with what the document requires.
func is[T any](t *testing.T, what string, got, want T) {
	t.Helper()
	if !reflect.DeepEqual(got, want) {
		t.Errorf("%s: got %v, want %v", what, got, want)
	}
}

// fails checks an error, and that the result beside it is the zero value.
func fails[T any](t *testing.T, what string, got T, e, want api.Errno) {
	t.Helper()
	if e != want || !reflect.ValueOf(got).IsZero() {
		t.Errorf("%s: got %v and the error %d, want the error %d alone", what, got, e, want)
	}
}

// gives checks a result without an error.
func gives[T any](t *testing.T, what string, got T, e api.Errno, want T) {
	t.Helper()
	if e != api.OK || !reflect.DeepEqual(got, want) {
		t.Errorf("%s: got %v and the error %d, want %v", what, got, e, want)
	}
}

// long returns a text of one digit, repeated.
func long(digit string, times int) string {
	return strings.Repeat(digit, times)
}

func rat(x *big.Rat) api.Rat {
	return api.Rat(strings.TrimSuffix(x.String(), "/1"))
}

func bigRat(t *testing.T, a api.Rat) *big.Rat {
	t.Helper()
	x, ok := new(big.Rat).SetString(string(a))
	if !ok {
		t.Fatalf("%q is no number", a)
	}
	return x
}

// fits reports whether a number has no more than MaxDigits digits above and below.
func fits(x *big.Rat) bool {
	return len(strings.TrimPrefix(x.Num().String(), "-")) <= api.MaxDigits && len(x.Denom().String()) <= api.MaxDigits
}

// result checks a number, or its error if it is too large.
func result(t *testing.T, what string, got api.Rat, e api.Errno, want *big.Rat) {
	t.Helper()
	if !fits(want) {
		fails(t, what, got, e, api.ErrLarge)
		return
	}
	gives(t, what, got, e, rat(want))
}

func randomInt(random *rand.Rand, digits int) *big.Int {
	limit := new(big.Int).Exp(big.NewInt(10), big.NewInt(int64(digits)), nil)
	x := new(big.Int).Rand(random, limit)
	if random.Intn(2) == 0 {
		x.Neg(x)
	}
	return x
}

// randomRat returns a number with at most so many digits above and below.
func randomRat(random *rand.Rand, digits int) *big.Rat {
	den := randomInt(random, 1+random.Intn(digits))
	if den.Sign() == 0 || random.Intn(4) == 0 {
		den = big.NewInt(1)
	}
	return new(big.Rat).SetFrac(randomInt(random, 1+random.Intn(digits)), den)
}

// badNumbers are texts with their errors.
var badNumbers = []struct {
	text api.Rat
	e    api.Errno
}{
	{"", api.ErrForm},
	{"1/1", api.ErrForm},
	{"2/4", api.ErrForm},
	{api.Rat("1" + strings.Repeat("0", 600)), api.ErrLarge},
}
