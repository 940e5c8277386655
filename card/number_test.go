package card_test

import (
	"math"
	"math/big"
	"math/rand"
	"strings"
	"testing"

	"niblick/api"
	"niblick/card"
)

func TestP1_1Names(t *testing.T) {
	for _, x := range []struct {
		text string
		want bool
	}{
		{"a", true}, {"z", true}, {"A", true}, {"Z", true}, {"a_9", true}, {"Q0_", true}, {"hole_18", true},
		{strings.Repeat("a", 24), true}, {strings.Repeat("a", 25), false},
		{"", false}, {"_a", false}, {"9a", false}, {"0", false}, {"a b", false}, {" a", false}, {"a-b", false},
		{"@", false}, {"[", false}, {"`", false}, {"{", false}, {"a@", false}, {"a[", false}, {"a`", false}, {"a{", false}, {"a/", false}, {"a:", false}, {"a^", false},
		{"é", false}, {"aé", false}, {"a\x00", false}, {"a\xff", false}, {"a\n", false}, {"a\u0660", false}, {"\u212a", false},
	} {
		is(t, "name "+x.text, card.IsName(x.text), x.want)
	}
}

func TestP1_1Check(t *testing.T) {
	for _, x := range []struct {
		text string
		want api.Errno
	}{
		{"0", api.OK}, {"1", api.OK}, {"-1", api.OK}, {"10", api.OK}, {"-7", api.OK}, {"3/2", api.OK}, {"-3/2", api.OK}, {"1/10", api.OK}, {"100/1001", api.OK},
		{"", api.ErrForm}, {"-", api.ErrForm}, {"/", api.ErrForm}, {"-0", api.ErrForm}, {"-0/5", api.ErrForm}, {"00", api.ErrForm}, {"07", api.ErrForm}, {"-07", api.ErrForm}, {"+3", api.ErrForm}, {"--3", api.ErrForm},
		{"3/", api.ErrForm}, {"/3", api.ErrForm}, {"3/0", api.ErrForm}, {"3/1", api.ErrForm}, {"3/02", api.ErrForm}, {"3/-2", api.ErrForm}, {"3/+2", api.ErrForm}, {"3//2", api.ErrForm}, {"3/2/5", api.ErrForm}, {"3/2/", api.ErrForm},
		{"1.5", api.ErrForm}, {" 1", api.ErrForm}, {"1 ", api.ErrForm}, {"1 /2", api.ErrForm}, {"1_000", api.ErrForm}, {"0x1", api.ErrForm}, {"1e3", api.ErrForm}, {"a", api.ErrForm}, {"1a1", api.ErrForm}, {"\u0661", api.ErrForm}, {"1\x00", api.ErrForm},
		{"3/6", api.ErrForm}, {"-3/6", api.ErrForm}, {"6/3", api.ErrForm}, {"0/5", api.ErrForm}, {"0/2", api.ErrForm}, {"5/5", api.ErrForm},
		{long("9", 600), api.OK}, {"-" + long("9", 600), api.OK}, {"1/" + long("9", 600), api.OK}, {"1" + long("0", 599) + "/" + long("9", 600), api.OK},
		{long("9", 601), api.ErrLarge}, {"-" + long("9", 601), api.ErrLarge}, {"1/" + long("9", 601), api.ErrLarge}, {long("9", 601) + "/" + long("7", 601), api.ErrLarge},
		{long("2", 601) + "/2", api.ErrLarge}, {"0/" + long("3", 601), api.ErrLarge}, {"3/" + long("3", 601), api.ErrLarge},
		{long("9", 601) + "a", api.ErrForm}, {"-0" + long("9", 600), api.ErrForm}, {long("9", 601) + "/1", api.ErrForm}, {long("9", 601) + "/0", api.ErrForm}, {"a/" + long("9", 601), api.ErrForm},
		{long("3", 600) + "/" + long("6", 600), api.ErrForm}, {"7" + long("0", 599) + "/" + long("7", 600), api.ErrForm},
	} {
		is(t, "check "+x.text, card.Check(api.Rat(x.text)), x.want)
	}
}

func TestP1_1Of(t *testing.T) {
	for _, x := range []struct {
		num, den int
		want     api.Rat
	}{
		{6, -4, "-3/2"}, {-6, -4, "3/2"}, {-6, 4, "-3/2"}, {0, -5, "0"}, {7, 1, "7"}, {7, -1, "-7"}, {10, 5, "2"}, {1, 3, "1/3"},
		{math.MinInt, 1, "-9223372036854775808"}, {math.MinInt, -1, "9223372036854775808"}, {math.MinInt, math.MinInt, "1"},
		{1, math.MinInt, "-1/9223372036854775808"}, {math.MaxInt, math.MinInt, "-9223372036854775807/9223372036854775808"}, {math.MaxInt, 1, "9223372036854775807"},
	} {
		a, e := card.Of(x.num, x.den)
		gives(t, "of", a, e, x.want)
	}
	for _, num := range []int{0, 1, -1, math.MinInt} {
		a, e := card.Of(num, 0)
		fails(t, "of 0", a, e, api.ErrZero)
	}
}

// operations are those with two numbers; each one with that of the library, which is not asked for a division by 0.
var operations = []struct {
	name string
	do   func(a, b api.Rat) (api.Rat, api.Errno)
	big  func(x, y *big.Rat) *big.Rat
}{
	{"add", card.Add, func(x, y *big.Rat) *big.Rat { return new(big.Rat).Add(x, y) }},
	{"sub", card.Sub, func(x, y *big.Rat) *big.Rat { return new(big.Rat).Sub(x, y) }},
	{"mul", card.Mul, func(x, y *big.Rat) *big.Rat { return new(big.Rat).Mul(x, y) }},
	{"div", card.Div, func(x, y *big.Rat) *big.Rat { return new(big.Rat).Quo(x, y) }},
}

func TestP1_1Operations(t *testing.T) {
	random := rand.New(rand.NewSource(5))
	for _, digits := range []int{1, 2, 9, 19, 20, 40, 150, 300, 320, 600} {
		for range 60 {
			x, y := randomRat(random, digits), randomRat(random, digits)
			for _, o := range operations {
				if o.name == "div" && y.Sign() == 0 {
					continue
				}
				got, e := o.do(rat(x), rat(y))
				result(t, o.name, got, e, o.big(x, y))
			}
			n, e := card.Compare(rat(x), rat(y))
			gives(t, "compare", n, e, x.Cmp(y))
			n, e = card.Compare(rat(x), rat(x))
			gives(t, "compare", n, e, 0)
		}
	}
}

func TestP1_1Examples(t *testing.T) {
	a, e := card.Add("1/2", "1/3")
	gives(t, "sum", a, e, "5/6")
	a, e = card.Sub("1/2", "1/2")
	gives(t, "difference", a, e, "0")
	a, e = card.Sub("1/3", "1/2")
	gives(t, "difference", a, e, "-1/6")
	a, e = card.Mul("2/3", "-3/4")
	gives(t, "product", a, e, "-1/2")
	a, e = card.Mul("0", "-3/4")
	gives(t, "product", a, e, "0")
	a, e = card.Div("1/2", "-1/4")
	gives(t, "quotient", a, e, "-2")
	a, e = card.Div("0", "-1/4")
	gives(t, "quotient", a, e, "0")
	for _, x := range []struct {
		a, b api.Rat
		want int
	}{{"1/2", "2/3", -1}, {"2/3", "1/2", 1}, {"-1/2", "-2/3", 1}, {"-1", "1/1000", -1}, {"0", "0", 0}, {"-3/7", "-3/7", 0}} {
		n, e := card.Compare(x.a, x.b)
		gives(t, "compare", n, e, x.want)
	}
}

func TestP1_1LargeResults(t *testing.T) {
	most := api.Rat(long("9", 600))
	less := api.Rat(long("9", 599) + "8")
	a, e := card.Add(less, "1")
	gives(t, "the greatest number", a, e, most)
	a, e = card.Add(most, "1")
	fails(t, "one more", a, e, api.ErrLarge)
	a, e = card.Sub("-"+most, "1")
	fails(t, "one less", a, e, api.ErrLarge)
	a, e = card.Add(most, "-1")
	gives(t, "one less", a, e, less)
	a, e = card.Mul(most, "10")
	fails(t, "ten times", a, e, api.ErrLarge)
	a, e = card.Div("1", most)
	gives(t, "the least part", a, e, "1/"+most)
	a, e = card.Div("1/10", most)
	fails(t, "a tenth of it", a, e, api.ErrLarge)
	a, e = card.Add(api.Rat(long("9", 600)+"/2"), "1/2")
	gives(t, "an integer of 600 digits", a, e, api.Rat("5"+long("0", 599)))
	a, e = card.Mul(most, "1/"+most)
	gives(t, "a large number times its inverse", a, e, "1")
	a, e = card.Add("1/11", "1/"+api.Rat("1"+long("0", 599)))
	fails(t, "a denominator of 601 digits", a, e, api.ErrLarge)
	n, e := card.Compare(most, less)
	gives(t, "compare", n, e, 1)
	n, e = card.Compare("1/"+most, api.Rat(long("9", 599)+"8/"+long("9", 600)))
	gives(t, "compare", n, e, -1)
}

func TestP1_1Errors(t *testing.T) {
	for _, x := range badNumbers {
		for _, o := range operations {
			a, e := o.do(x.text, "1")
			fails(t, o.name, a, e, x.e)
			a, e = o.do("1", x.text)
			fails(t, o.name, a, e, x.e)
			a, e = o.do(x.text, "0")
			fails(t, o.name, a, e, x.e)
			for _, y := range badNumbers {
				a, e = o.do(x.text, y.text)
				fails(t, o.name, a, e, x.e)
			}
		}
		n, e := card.Compare(x.text, "1")
		fails(t, "compare", n, e, x.e)
		n, e = card.Compare("2", x.text)
		fails(t, "compare", n, e, x.e)
		for _, y := range badNumbers {
			n, e = card.Compare(x.text, y.text)
			fails(t, "compare", n, e, x.e)
		}
	}
	for _, a := range []api.Rat{"0", "1", "-1/2", api.Rat(long("9", 600))} {
		quotient, e := card.Div(a, "0")
		fails(t, "by 0", quotient, e, api.ErrZero)
	}
}

func TestP1_2Round(t *testing.T) {
	for _, x := range []struct{ a, unit, want api.Rat }{
		{"25/2", "1", "13"}, {"-5/2", "1", "-2"}, {"-3/2", "1", "-1"}, {"3/2", "1", "2"}, {"31/20", "1/10", "8/5"}, {"7", "5", "5"}, {"8", "5", "10"}, {"15/2", "5", "10"}, {"-15/2", "5", "-5"},
		{"-1/3", "1", "0"}, {"-1/2", "1", "0"}, {"-501/1000", "1", "-1"}, {"1/2", "1", "1"}, {"499/1000", "1", "0"}, {"0", "3/7", "0"}, {"1", "2/3", "4/3"}, {"-1", "2/3", "-2/3"}, {"-4/3", "2/3", "-4/3"}, {"6/7", "3/7", "6/7"},
		{"1", "4", "0"}, {"2", "4", "4"}, {"-2", "4", "0"}, {"-3", "4", "-4"},
	} {
		got, e := card.Round(x.a, x.unit)
		gives(t, string(x.a)+" to "+string(x.unit), got, e, x.want)
	}
	random := rand.New(rand.NewSource(6))
	for range 2000 {
		digits := 1 + random.Intn(30)
		x, unit := randomRat(random, digits), randomRat(random, digits)
		if unit.Sign() <= 0 {
			continue
		}
		got, e := card.Round(rat(x), rat(unit))
		result(t, "rounded", got, e, rounded(x, unit))
	}
}

// rounded returns the greatest multiple of a unit that is not more than half a unit above a number.
func rounded(x, unit *big.Rat) *big.Rat {
	y := new(big.Rat).Quo(x, unit)
	y.Add(y, big.NewRat(1, 2))
	n := new(big.Int).Div(y.Num(), y.Denom())
	return new(big.Rat).Mul(new(big.Rat).SetInt(n), unit)
}

func TestP1_2RoundLargeNumbers(t *testing.T) {
	most := api.Rat(long("9", 600))
	a, e := card.Round(most, "1")
	gives(t, "an integer", a, e, most)
	a, e = card.Round(most, "2")
	fails(t, "the even number above", a, e, api.ErrLarge)
	a, e = card.Round("-"+most, "2")
	gives(t, "the even number above", a, e, "-"+api.Rat(long("9", 599)+"8"))
	a, e = card.Round("1/"+most, most)
	gives(t, "a small number", a, e, "0")
	a, e = card.Round(most, "1/"+most)
	gives(t, "a small unit", a, e, most)
	half, _ := card.Div(most, "2")
	a, e = card.Round(half, most)
	gives(t, "half a large unit", a, e, most)
}

func TestP1_2RoundErrors(t *testing.T) {
	for _, x := range badNumbers {
		a, e := card.Round(x.text, "1")
		fails(t, "number", a, e, x.e)
		a, e = card.Round(x.text, "0")
		fails(t, "number before the unit", a, e, x.e)
		a, e = card.Round("1", x.text)
		fails(t, "unit", a, e, x.e)
		for _, y := range badNumbers {
			a, e = card.Round(x.text, y.text)
			fails(t, "number before the unit", a, e, x.e)
		}
	}
	for _, unit := range []api.Rat{"0", "-1", "-1/2", api.Rat("-" + long("9", 600))} {
		a, e := card.Round("1", unit)
		fails(t, "no unit", a, e, api.ErrRange)
	}
}

func TestP1_2Root(t *testing.T) {
	for n := range 5000 {
		root, e := card.Root(n)
		is(t, "error", e, api.OK)
		if root*root > n || (root+1)*(root+1) <= n {
			t.Fatalf("the root of %d is not %d", n, root)
		}
	}
	for _, root := range []int{1 << 16, 65537, 99999, 1 << 20, 1<<31 - 1, 1 << 31, 1<<31 + 1, 94906267, 3037000499} {
		for _, x := range []struct{ n, want int }{{root*root - 1, root - 1}, {root * root, root}, {root*root + 1, root}} {
			got, e := card.Root(x.n)
			gives(t, "root", got, e, x.want)
		}
	}
	got, e := card.Root(50)
	gives(t, "root of 50", got, e, 7)
	got, e = card.Root(math.MaxInt)
	gives(t, "root of the greatest int", got, e, 3037000499)
	for _, n := range []int{-1, -4, math.MinInt} {
		got, e = card.Root(n)
		fails(t, "root", got, e, api.ErrRange)
	}
}

func TestP1_2Units(t *testing.T) {
	for _, x := range []struct{ yards, metres api.Rat }{
		{"100", "2286/25"}, {"0", "0"}, {"1", "1143/1250"}, {"-5/2", "-1143/500"}, {"1250/1143", "1"}, {"410", "46863/125"},
	} {
		metres, e := card.Metres(x.yards)
		gives(t, "metres", metres, e, x.metres)
		yards, e := card.Yards(x.metres)
		gives(t, "yards", yards, e, x.yards)
	}
	for _, x := range badNumbers {
		a, e := card.Metres(x.text)
		fails(t, "metres", a, e, x.e)
		a, e = card.Yards(x.text)
		fails(t, "yards", a, e, x.e)
	}
	most := api.Rat(long("9", 600))
	a, e := card.Yards(most)
	fails(t, "too many yards", a, e, api.ErrLarge)
	a, e = card.Metres(most)
	fails(t, "too many metres", a, e, api.ErrLarge)
}
