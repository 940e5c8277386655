package strategy_test

import (
	"fmt"
	"math/big"
	"math/rand"
	"slices"
	"strings"
	"testing"

	"niblick/api"
	"niblick/strategy"
)

func TestP9_2Values(t *testing.T) {
	for _, x := range []struct {
		what string
		p    strategy.Process
		plan []int
		want string
	}{
		{"drives", sample(), []int{0, 0, 0}, "7/2 3 2"},
		{"irons", sample(), []int{1, 0, 0}, "3 3 2"},
		{"a sure stroke", process("a x=-1:1"), []int{0}, "1"},
		{"with penalty strokes", process("a x=-1+9:1"), []int{0}, "10"},
		{"the least chance", process("a x=-1:1/65536,0:65535/65536"), []int{0}, "65536"},
		{"the least chance, and penalty strokes", process("a x=-1:1/65536,0+9:65535/65536"), []int{0}, "655351"},
		{"to and fro", process("a x=1:1 y=1:1/2,-1+2:1/2", "b x=-1:1 y=0:1"), []int{1, 1}, "5 6"},
		{"a state that is not reached", process("a x=-1:1", "b x=0:1"), []int{0, 0}, "1 2"},
	} {
		v, e := strategy.Values(x.p, x.plan)
		gives(t, x.what, v, e, numbers(x.want))
	}
	for _, x := range []struct {
		what string
		p    strategy.Process
		plan []int
		want api.Errno
	}{
		{"to and fro", process("a x=1:1 y=-1:1", "b x=-1:1 y=0:1"), []int{0, 1}, api.ErrOpen},
		{"one that stays", process("a x=-1:1", "b x=-1:1", "c x=2:1"), []int{0, 0, 0}, api.ErrOpen},
		{"one that perhaps stays", process("a x=-1:1/2,1:1/2", "b x=1:1"), []int{0, 0}, api.ErrOpen},
		{"no club", sample(), []int{0, 0, 1}, api.ErrUnknown},
	} {
		v, e := strategy.Values(x.p, x.plan)
		fails(t, x.what, v, e, x.want)
	}
}

func TestP9_2ValuesAsDefined(t *testing.T) {
	random := rand.New(rand.NewSource(4))
	ending := 0
	for range 3000 {
		p := randomProcess(random, 1+random.Intn(6), 2, 1+random.Intn(3))
		plan := randomPlan(random, p)
		v, e := strategy.Values(p, plan)
		if len(slowEnds(p, plan)) < len(p.States) {
			fails(t, fmt.Sprint(p, plan), v, e, api.ErrOpen)
			continue
		}
		gives(t, fmt.Sprint(p, plan), v, e, ratOfAll(slowValues(p, plan)))
		ending++
	}
	is(t, "often", ending > 500, true)
	full := fullProcess(random)
	plan := randomPlan(random, full)
	v, e := strategy.Values(full, plan)
	gives(t, "at all limits", v, e, ratOfAll(slowValues(full, plan)))
}

func TestP9_2Mean(t *testing.T) {
	for _, x := range []struct {
		values      string
		state, club int
		want        api.Rat
	}{
		{"0 1 2", 1, 0, "5/2"},
		{"7/2 3 2", 0, 0, "7/2"},
		{"7/2 3 2", 0, 1, "3"},
		{"7/2 3 2", 1, 0, "3"},
		{"0 0 0", 2, 0, "1"},
		{"0 -8 1/3", 0, 0, "-17/6"},
		{"0 0 -1", 0, 1, "0"},
	} {
		m, e := strategy.Mean(sample(), numbers(x.values), x.state, x.club)
		gives(t, fmt.Sprint(x), m, e, x.want)
	}
	for _, x := range []struct {
		values      string
		state, club int
		want        api.Errno
	}{
		{"0 1", 1, 0, api.ErrShape},
		{"0 x 1", 3, 0, api.ErrForm},
		{"0 1 2", 3, 0, api.ErrUnknown},
		{"0 1 2", -1, 0, api.ErrUnknown},
		{"0 1 2", 1, 1, api.ErrUnknown},
		{"0 1 2", 0, 2, api.ErrUnknown},
		{"0 1 2", 0, -1, api.ErrUnknown},
	} {
		m, e := strategy.Mean(sample(), numbers(x.values), x.state, x.club)
		fails(t, fmt.Sprint(x), m, e, x.want)
	}
}

// longNumbers returns numbers with up to 600 digits.
func longNumbers(random *rand.Rand, n int) []api.Rat {
	digits := func() *big.Int {
		x := new(big.Int)
		for range 1 + random.Intn(599) {
			x.Mul(x, big.NewInt(10))
			x.Add(x, big.NewInt(int64(random.Intn(10))))
		}
		return x
	}
	var l []api.Rat
	for range n {
		top, bottom := digits(), digits()
		if random.Intn(2) == 0 {
			top.Neg(top)
		}
		if random.Intn(4) == 0 {
			bottom.Exp(big.NewInt(2), big.NewInt(int64(random.Intn(1990))), nil)
		}
		l = append(l, ratOf(new(big.Rat).SetFrac(top, bottom.Add(bottom, big.NewInt(1)))))
	}
	return l
}

func TestP9_2MeansAsDefined(t *testing.T) {
	random := rand.New(rand.NewSource(5))
	large := 0
	for n := range 1200 {
		p := randomProcess(random, 1+random.Intn(6), 3, 1+random.Intn(6))
		values := randomValues(random, len(p.States))
		if n%3 == 0 {
			values = longNumbers(random, len(p.States))
		}
		state := random.Intn(len(p.States))
		for k, c := range p.States[state].Clubs {
			m, e := strategy.Mean(p, values, state, k)
			want := slowMean(c, bigOfAll(values))
			if !fits(want) {
				fails(t, fmt.Sprint(p, values), m, e, api.ErrLarge)
				large++
				continue
			}
			gives(t, fmt.Sprint(p, values), m, e, ratOf(want))
		}
		l, e := strategy.Greedy(p, values)
		gives(t, fmt.Sprint("Greedy ", p, values), l, e, slowGreedy(p, bigOfAll(values)))
	}
	is(t, "often too large", large > 120, true)
}

// Only the result of Mean can be too large, and by one digit.
func TestP9_2MeansAtTheLimit(t *testing.T) {
	p := process("a x=0:1 y=1:1 z=0:1/2,1:1/2", "b x=-1:1 y=0+1:1")
	mean := func(a, b string, state, club int) (api.Rat, api.Errno) {
		return strategy.Mean(p, []api.Rat{api.Rat(a), api.Rat(b)}, state, club)
	}
	greatest, almost := nines(600), nines(599)+"8"
	m, e := mean(almost, "0", 0, 0)
	gives(t, "600 digits", m, e, api.Rat(greatest))
	m, e = mean(greatest, "0", 0, 0)
	fails(t, "601 digits", m, e, api.ErrLarge)
	m, e = mean(greatest, "0", 0, 1)
	gives(t, "of another state", m, e, "1")
	m, e = mean(greatest, "-"+greatest, 0, 2)
	gives(t, "together little", m, e, "1")
	m, e = mean(almost, "0", 1, 1)
	fails(t, "with a penalty stroke", m, e, api.ErrLarge)
	m, e = mean("1/"+nines(600), "-1/"+nines(600), 0, 2)
	gives(t, "denominators that go", m, e, "1")
	m, e = mean("1/"+nines(600), "0", 0, 2)
	fails(t, "a denominator with 601 digits", m, e, api.ErrLarge)
	l, e := strategy.Greedy(p, []api.Rat{api.Rat(greatest), api.Rat("-" + greatest)})
	gives(t, "Greedy", l, e, []int{1, 0})
	l, e = strategy.Greedy(p, []api.Rat{api.Rat("-" + greatest), api.Rat(greatest)})
	gives(t, "Greedy", l, e, []int{0, 1})
}

func TestP9_2Greedy(t *testing.T) {
	for _, x := range []struct {
		p      strategy.Process
		values string
		want   []int
	}{
		{sample(), "0 0 0", []int{0, 0, 0}},
		{sample(), "3 3 2", []int{1, 0, 0}},
		{sample(), "0 2 2", []int{0, 0, 0}},
		{sample(), "0 19/10 2", []int{0, 0, 0}},
		{sample(), "0 21/10 2", []int{1, 0, 0}},
		{process("a x=0+1:1 y=0:1 z=-1:1 w=0:1/2,-1:1/2"), "0", []int{1}},
		{process("a x=0+1:1 y=0:1 z=-1:1 w=0:1/2,-1:1/2"), "1/1000000000000000000000", []int{2}},
		{process("a x=0+1:1 y=0:1 z=-1:1 w=0:1/2,-1:1/2"), "-1/1000000000000000000000", []int{1}},
	} {
		l, e := strategy.Greedy(x.p, numbers(x.values))
		gives(t, fmt.Sprint(x), l, e, x.want)
	}
	l, e := strategy.Greedy(sample(), numbers("1 2 3 4"))
	fails(t, "four values", l, e, api.ErrShape)
}

func TestP9_3Best(t *testing.T) {
	for _, x := range []struct {
		what string
		p    strategy.Process
		want planned
	}{
		{"the example", sample(), planned{numbers("3 3 2"), []int{1, 0, 0}}},
		{"a club that stays", process("a x=0:1 y=1:1/2,-1+2:1/2", "b x=-1:1 y=0:1"), planned{numbers("5/2 1"), []int{1, 0}}},
		{"the first of equal clubs", process("a w=-1+2:1 x=-1+1:1 y=1:1 z=-1+1:1", "b x=-1:1 y=-1:1"), planned{numbers("2 1"), []int{1, 0}}},
		{"a long way round", process("a x=-1+9:1 y=1:1", "b x=-1+9:1 y=2:1", "c x=-1+9:1 y=3:1", "d x=-1+9:1 y=-1:1"), planned{numbers("4 3 2 1"), []int{1, 1, 1, 1}}},
		{"a long way round, backwards", process("a x=-1:1", "b x=-1+9:1 y=0:1", "c x=-1+9:1 y=1:1", "d y=2:1 x=-1+9:1"), planned{numbers("1 2 3 4"), []int{0, 1, 1, 0}}},
		{"as long", process("a x=-1+3:1 y=1:1", "b x=-1+2:1 y=2:1", "c x=-1+1:1 y=-1:1"), planned{numbers("3 2 1"), []int{1, 1, 1}}},
		{"no shorter", process("a x=-1+1:1 y=1:1", "b x=-1:1"), planned{numbers("2 1"), []int{0, 0}}},
		{"a small risk", process("a bold=-1:32767/65536,1:32769/65536 safe=1:1", "b x=-1:1"), planned{numbers("98305/65536 1"), []int{0, 0}}},
		{"a great risk", process("a bold=-1:1/65536,1+1:65535/65536 safe=1:1", "b x=-1:1"), planned{numbers("2 1"), []int{1, 0}}},
	} {
		b, e := best(x.p)
		gives(t, x.what, b, e, x.want)
		is(t, x.what, strategy.CheckBest(x.p, x.want.values), api.OK)
	}
	for what, p := range map[string]strategy.Process{
		"it stays":               process("a x=0:1"),
		"one of two stays":       process("a x=-1:1", "b x=1:1"),
		"a way to where it stay": process("a x=1:1", "b x=1:1"),
		"two stay together":      process("a x=-1:1", "b x=2:1 y=1:1", "c x=1:1/2,2:1/2"),
	} {
		b, e := best(p)
		fails(t, what, b, e, api.ErrOpen)
		is(t, what, strategy.CheckBest(p, make([]api.Rat, len(p.States))), api.ErrForm)
		is(t, what, strategy.CheckBest(p, slices.Repeat([]api.Rat{"2"}, len(p.States))), api.ErrProof)
	}
	b, e := best(strategy.Process{})
	fails(t, "no states", b, e, api.ErrEmpty)
}

func TestP9_3CheckBest(t *testing.T) {
	for words, want := range map[string]api.Errno{
		"3 3 2":                   api.OK,
		"7/2 3 2":                 api.ErrProof,
		"3 7/2 2":                 api.ErrProof,
		"3 3 3/2":                 api.ErrProof,
		"0 0 0":                   api.ErrProof,
		"3 3":                     api.ErrShape,
		"3 3 2 1":                 api.ErrShape,
		"3 3 2/1":                 api.ErrForm,
		"6/2 3 2":                 api.ErrForm,
		"3 3 " + nines(601):       api.ErrLarge,
		"3 3 " + nines(600):       api.ErrProof,
		"3 3 2000000001/10000000": api.ErrProof,
	} {
		is(t, words, strategy.CheckBest(sample(), numbers(words)), want)
	}
	is(t, "no process", strategy.CheckBest(strategy.Process{}, nil), api.ErrEmpty)
}

func TestP9_3BestAsDefined(t *testing.T) {
	random := rand.New(rand.NewSource(6))
	open, found := 0, 0
	for range 1500 {
		p := smallProcess(random)
		b, e := best(p)
		least := slowBest(p)
		if least == nil {
			fails(t, fmt.Sprint(p), b, e, api.ErrOpen)
			open++
			continue
		}
		found++
		gives(t, fmt.Sprint(p), b, e, planned{ratOfAll(least), slowGreedy(p, least)})
		is(t, "they are Bellman's", strategy.CheckBest(p, b.values), api.OK)
		other := slices.Clone(b.values)
		i := random.Intn(len(other))
		other[i] = ratOf(new(big.Rat).Add(bigOf(other[i]), big.NewRat(int64(pick(random, -1, 1)), int64(pick(random, 1, 3, 1<<40)))))
		is(t, "others are not", strategy.CheckBest(p, other), api.ErrProof)
		plan := randomPlan(random, p)
		if len(slowEnds(p, plan)) == len(p.States) {
			values := ratOfAll(slowValues(p, plan))
			want := api.ErrProof
			if alike(values, b.values) {
				want = api.OK
			}
			is(t, "those of a plan", strategy.CheckBest(p, values), want)
		}
	}
	is(t, "often both", open > 100 && found > 300, true)
}

// What is best at all limits is its own least mean; nothing else is.
func TestP9_3BestAtTheLimits(t *testing.T) {
	random := rand.New(rand.NewSource(7))
	for range 5 {
		p := fullProcess(random)
		b, e := best(p)
		values := bigOfAll(ok(t, b, e).values)
		is(t, "the clubs", b.clubs, slowGreedy(p, values))
		for i, s := range p.States {
			is(t, "the mean", ratOf(slowMean(s.Clubs[b.clubs[i]], values)), b.values[i])
		}
		is(t, "the check", strategy.CheckBest(p, b.values), api.OK)
		is(t, "long values", strategy.CheckBest(p, longNumbers(random, 24)), api.ErrProof)
	}
}

// The greatest values there can be: each stroke but one of 65536 leads back to the start, with 9 penalty strokes.
func TestP9_3TheLongestWay(t *testing.T) {
	var lines []string
	for i := range 24 {
		next := i + 1
		if next == 24 {
			next = -1
		}
		club := fmt.Sprint("x=", next, "+9:1/65536,0+9:65535/65536")
		lines = append(lines, fmt.Sprint("s", i, " ", club, " ", strings.Replace(club, "+9", "", 1)))
	}
	p := process(lines...)
	for i := range p.States {
		p.States[i].Clubs[1].Name = "y"
	}
	is(t, "a process", strategy.CheckProcess(p), api.OK)
	// The mean number of strokes is that of the tries until 24 of them succeed one after another.
	tries := new(big.Int)
	for range 24 {
		tries.Add(tries, big.NewInt(1)).Lsh(tries, 16)
	}
	values, e := strategy.Values(p, make([]int, 24))
	is(t, "of the start", ok(t, values, e)[0], api.Rat(new(big.Int).Mul(tries, big.NewInt(10)).String()))
	b, e := best(p)
	is(t, "the better clubs", ok(t, b, e).clubs, slices.Repeat([]int{1}, 24))
	is(t, "their values", b.values, ratOfAll(slowValues(p, b.clubs)))
	is(t, "the check", strategy.CheckBest(p, b.values), api.OK)
}
