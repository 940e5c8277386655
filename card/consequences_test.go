package card_test

import (
	"math"
	"math/big"
	"math/rand"
	"reflect"
	"testing"

	"niblick/api"
	"niblick/card"
)

func TestP1_7RoundingTwice(t *testing.T) {
	random := rand.New(rand.NewSource(12))
	for range 1000 {
		x, unit := randomRat(random, 20), randomRat(random, 10)
		if unit.Sign() <= 0 {
			continue
		}
		once, e := card.Round(rat(x), rat(unit))
		is(t, "error", e, api.OK)
		twice, e := card.Round(once, rat(unit))
		gives(t, "again", twice, e, once)
		way := new(big.Rat).Sub(bigRat(t, once), x)
		way.Abs(way).Mul(way, big.NewRat(2, 1))
		if way.Cmp(unit) > 0 {
			t.Errorf("%v is more than half a unit %v from %v", once, unit, x)
		}
	}
}

func TestP1_7ConvertingBack(t *testing.T) {
	random := rand.New(rand.NewSource(13))
	for range 500 {
		x := rat(randomRat(random, 100))
		yards, e := card.Yards(x)
		is(t, "error", e, api.OK)
		metres, e := card.Metres(yards)
		gives(t, "back", metres, e, x)
		metres, e = card.Metres(x)
		is(t, "error", e, api.OK)
		yards, e = card.Yards(metres)
		gives(t, "back", yards, e, x)
	}
}

func TestP1_7SharesAddUp(t *testing.T) {
	random := rand.New(rand.NewSource(14))
	for range 2000 {
		limit := []int{2, 10, 1000, 1000000000}[random.Intn(4)]
		weights := make([]int, 1+random.Intn(256))
		sum := 0
		for i := range weights {
			weights[i] = random.Intn(limit)
			sum += weights[i]
		}
		if sum == 0 {
			continue
		}
		total := random.Intn([]int{3, 100, 1000000000}[random.Intn(3)])
		shares, e := card.Shares(total, weights)
		is(t, "error", e, api.OK)
		is(t, "shares", len(shares), len(weights))
		fair(t, total, sum, weights, shares)
	}
}

// fair checks that shares add up, and that just those with the greatest remainders, of equal ones the first, have one more than their part.
func fair(t *testing.T, total, sum int, weights, shares []int) {
	t.Helper()
	added := 0
	without := -1 // the greatest remainder so far of one that has not one more
	for i, share := range shares {
		added += share
		part, rest := total*weights[i]/sum, total*weights[i]%sum
		switch share - part {
		case 0:
			without = max(without, rest)
		case 1:
			if rest <= without {
				t.Errorf("share %d has one more, not one before with the remainder %d", i, without)
			}
		default:
			t.Errorf("share %d is %d, not %d or one more", i, share, part)
		}
	}
	is(t, "the sum", added, total)
	for i, share := range shares {
		if rest := total * weights[i] % sum; share > total*weights[i]/sum && rest < without {
			t.Errorf("share %d has one more, not one with the remainder %d", i, without)
		}
	}
}

func TestP1_7MeansOfSums(t *testing.T) {
	random := rand.New(rand.NewSource(15))
	for range 300 {
		a, b := randomChances(random, 1+random.Intn(7), random.Intn(60)), randomChances(random, 1+random.Intn(7), random.Intn(60))
		both, e := card.Convolve(a, b)
		is(t, "error", e, api.OK)
		x, _ := card.Mean(a)
		y, _ := card.Mean(b)
		sum, _ := card.Add(x, y)
		mean, e := card.Mean(both)
		gives(t, "mean", mean, e, sum)
		other, e := card.Convolve(b, a)
		gives(t, "the other way round", other, e, both)
	}
}

func TestP1_7ParseOfPrint(t *testing.T) {
	random := rand.New(rand.NewSource(16))
	kinds := []api.Entry{{Strokes: 4}, {Strokes: 4, Mark: "c"}, {Mark: "x"}, {Mark: "-"}, {Strokes: 99}, {Strokes: 1, Mark: "c"}}
	for range 3000 {
		variety := 1 + random.Intn(len(kinds))
		l := make([]api.Entry, 1+random.Intn(36))
		for i := range l {
			l[i] = kinds[random.Intn(variety)]
		}
		text, e := card.Print(l)
		is(t, "error", e, api.OK)
		read, at, e := card.Parse(text)
		gives(t, text, read, e, l)
		is(t, text, at, 0)
		again, e := card.Print(read)
		gives(t, text, again, e, text)
	}
}

// odd gives arguments of which most have no form.
type odd struct {
	random *rand.Rand
	texts  []string
}

func newOdd(seed int64) odd {
	return odd{rand.New(rand.NewSource(seed)), []string{"", "0", "-0", "1", "-1", "1/2", "-3/2", "2/4", "1/0", "/", "-", "x", "c", "|", "*", "4", "4c", "3*4", "4 | 5", "9*4 |", "ann", "a b", " ", "\xff", "\x00", "é", long("9", 600), long("9", 601), "1/" + long("9", 600), long("4 ", 2048), long("7", 5000)}}
}

func (o odd) text() string {
	return o.texts[o.random.Intn(len(o.texts))]
}

func (o odd) rat() api.Rat { return api.Rat(o.text()) }

func (o odd) int() int {
	numbers := []int{0, 1, -1, 2, 3, 4, 36, 64, 99, 100, 256, 999999999, -999999999, 1000000000, math.MaxInt, math.MinInt}
	return numbers[o.random.Intn(len(numbers))]
}

// list returns nil, or some elements.
func list[T any](o odd, element func() T) []T {
	n := []int{0, 0, 1, 2, 3, 36, 37, 64, 65, 257}[o.random.Intn(10)]
	var l []T
	for range n {
		l = append(l, element())
	}
	return l
}

func (o odd) point() api.Point   { return api.Point{X: o.rat(), Y: o.rat()} }
func (o odd) chance() api.Chance { return api.Chance{Value: o.int(), Weight: o.rat()} }
func (o odd) hole() api.Hole     { return api.Hole{Par: o.int(), Index: o.int()} }
func (o odd) entry() api.Entry   { return api.Entry{Strokes: o.int(), Mark: o.text()} }
func (o odd) rats() []api.Rat    { return list(o, o.rat) }
func (o odd) card() api.Card {
	return api.Card{Player: o.text(), Entries: list(o, o.entry)}
}

// TestP1NeverPanics asks all functions for anything, and whether a result that has to be a number is one.
func TestP1NeverPanics(t *testing.T) {
	o := newOdd(17)
	number := func(a api.Rat, e api.Errno) {
		if e == api.OK {
			e = card.Check(a)
			a = ""
		}
		if e != api.OK && a != "" {
			t.Errorf("the number %s beside the error %d", a, e)
		}
	}
	for range 2000 {
		card.IsName(o.text())
		card.Check(o.rat())
		number(card.Of(o.int(), o.int()))
		number(card.Add(o.rat(), o.rat()))
		number(card.Sub(o.rat(), o.rat()))
		number(card.Mul(o.rat(), o.rat()))
		number(card.Div(o.rat(), o.rat()))
		number(card.Round(o.rat(), o.rat()))
		number(card.Yards(o.rat()))
		number(card.Metres(o.rat()))
		number(card.Value(list(o, o.point), o.rat()))
		number(card.Mean(list(o, o.chance)))
		number(card.Atmost(list(o, o.chance), o.int()))
		card.Compare(o.rat(), o.rat())
		card.Root(o.int())
		card.CheckTable(list(o, o.point))
		card.Shares(o.int(), list(o, o.int))
		card.CheckChances(list(o, o.chance))
		card.Convolve(list(o, o.chance), list(o, o.chance))
		card.Solve(list(o, o.rats), o.rats())
		card.CheckHoles(list(o, o.hole))
		card.CheckCard(list(o, o.hole), o.card())
		card.Parse(o.text())
		card.Print(list(o, o.entry))
	}
}

// TestArgumentsAreKept checks that no function changes its arguments, or gives them out.
func TestArgumentsAreKept(t *testing.T) {
	m, b := matrix{{"0", "2"}, {"3", "1/2"}}, []api.Rat{"1", "1"}
	first, _ := card.Solve(m, b)
	second, _ := card.Solve(m, b)
	first[0] = "77"
	is(t, "a second solution", second, []api.Rat{"1/4", "1/2"})
	is(t, "the equations", m, matrix{{"0", "2"}, {"3", "1/2"}})
	is(t, "the right side", b, []api.Rat{"1", "1"})
	weights := []int{3, 1, 2}
	shares, _ := card.Shares(7, weights)
	shares[0] = 77
	is(t, "the weights", weights, []int{3, 1, 2})
	l := oneHole()
	sum, _ := card.Convolve(l, l)
	sum[0].Value = 77
	if !reflect.DeepEqual(l, oneHole()) {
		t.Error("the chances were changed")
	}
	entries := repeated(12, api.Entry{Strokes: 4})
	card.Print(entries)
	is(t, "the entries", entries, repeated(12, api.Entry{Strokes: 4}))
}
