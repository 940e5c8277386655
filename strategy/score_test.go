package strategy_test

import (
	"fmt"
	"math/big"
	"math/rand"
	"testing"

	"niblick/api"
	"niblick/strategy"
)

func TestP9_4Gained(t *testing.T) {
	for _, x := range []struct{ values, log, want string }{
		{"3 3 2", "0>1 1>2 2>-1", "-1 0 1"},
		{"3 3 2", "1>1+1", "-2"},
		{"3 3 2", "", ""},
		{"7/2 3 2", "0>2", "1/2"},
		{"0 -1/3 5", "0>1 1>1+1 1>2 2>2", "-2/3 -2 -19/3 -1"},
	} {
		g, e := strategy.Gained(sample(), numbers(x.values), strokes(x.log))
		gives(t, fmt.Sprint(x), g, e, numbers(x.want))
	}
	for _, x := range []struct {
		values, log string
		want        api.Errno
	}{
		{"3 3", "0>3", api.ErrShape},
		{"3 3 +2", "0>3", api.ErrForm},
		{"3 3 2", "0>3", api.ErrUnknown},
		{"3 3 2", "0>1 1>2 1>2", api.ErrOrder},
		{"3 3 2", "0>1 1>2 2>-1+1", api.ErrNone},
	} {
		g, e := strategy.Gained(sample(), numbers(x.values), strokes(x.log))
		fails(t, fmt.Sprint(x), g, e, x.want)
	}
}

func TestP9_4GainedAtTheLimit(t *testing.T) {
	p := process("a x=-1+9:1/2,0:1/4,1:1/4", "b y=-1:1")
	greatest := nines(600)
	for _, x := range []struct {
		values, log, want string
		e                 api.Errno
	}{
		{greatest + " 0", "0>0", "-1", api.OK},
		{greatest + " 0", "0>1", nines(599) + "8", api.OK},
		{greatest + " -1", "0>1", greatest, api.OK},
		{greatest + " -2", "0>1", "", api.ErrLarge},
		{"-" + greatest + " 0", "0>1", "", api.ErrLarge},
		{"-" + nines(599) + "8 0", "0>1", "-" + greatest, api.OK},
		{"-" + nines(599) + "8 0", "0>1 1>-1", "-" + greatest + " -1", api.OK},
		{"1/" + greatest + " 1/2", "0>1", "", api.ErrLarge},
		{"1/" + greatest + " 1/2", "1>-1", "-1/2", api.OK},
	} {
		g, e := strategy.Gained(p, numbers(x.values), strokes(x.log))
		if x.e != api.OK {
			fails(t, x.log, g, e, x.e)
			continue
		}
		gives(t, x.log, g, e, numbers(x.want))
	}
}

func TestP9_4Scores(t *testing.T) {
	to := process("a pat=0:1 hit=1:1/2,-1+2:1/2", "b hit=-1:1 back=0:1")
	for _, x := range []struct {
		p           strategy.Process
		plan        []int
		state, most int
		want        string
	}{
		{sample(), []int{0, 0, 0}, 2, 3, "0 1/2 1/4 1/8"},
		{sample(), []int{0, 0, 0}, 2, 0, "0"},
		{sample(), []int{0, 0, 0}, 1, 4, "0 1/4 1/4 3/16 1/8"},
		{sample(), []int{1, 0, 0}, 0, 3, "0 0 1/2 1/4"},
		{to, []int{1, 0}, 0, 4, "0 0 1/2 1/2 0"},
		{to, []int{0, 0}, 0, 2, "0 0 0"},
		{to, []int{0, 0}, 1, 2, "0 1 0"},
		{to, []int{1, 1}, 1, 7, "0 0 0 0 1/2 0 1/4 0"},
		{process("a x=-1+9:1/2,-1:1/2"), []int{0}, 0, 10, "0 1/2 0 0 0 0 0 0 0 0 1/2"},
		{process("a x=-1+9:1/2,-1:1/2"), []int{0}, 0, 9, "0 1/2 0 0 0 0 0 0 0 0"},
	} {
		s, e := strategy.Scores(x.p, x.plan, x.state, x.most)
		gives(t, fmt.Sprint(x), s, e, numbers(x.want))
	}
	for _, x := range []struct {
		plan        []int
		state, most int
		want        api.Errno
	}{
		{[]int{0, 0}, 3, 61, api.ErrShape},
		{[]int{0, 0, 1}, 3, 61, api.ErrUnknown},
		{[]int{0, 0, 0}, 3, 61, api.ErrUnknown},
		{[]int{0, 0, 0}, -1, 60, api.ErrUnknown},
		{[]int{0, 0, 0}, 2, 61, api.ErrRange},
		{[]int{0, 0, 0}, 2, -1, api.ErrRange},
	} {
		s, e := strategy.Scores(sample(), x.plan, x.state, x.most)
		fails(t, fmt.Sprint(x), s, e, x.want)
	}
}

func TestP9_4ScoresAsDefined(t *testing.T) {
	random := rand.New(rand.NewSource(8))
	for range 1500 {
		p := randomProcess(random, 1+random.Intn(5), 2, 1+random.Intn(3))
		plan, state, most := randomPlan(random, p), random.Intn(len(p.States)), random.Intn(8)
		var want []api.Rat
		for n := range most + 1 {
			want = append(want, ratOf(slowScore(p, plan, state, n)))
		}
		s, e := strategy.Scores(p, plan, state, most)
		gives(t, fmt.Sprint(p, plan, state, most), s, e, want)
	}
}

// With 60 strokes and the least chances there are 290 digits, and no more.
func TestP9_4ScoresAtTheLimits(t *testing.T) {
	p := process("a x=-1:1/65536,0:65535/65536")
	s, e := strategy.Scores(p, []int{0}, 0, 60)
	want := big.NewRat(1, 65536)
	for n, x := range ok(t, s, e) {
		if n == 0 {
			is(t, "no stroke", x, "0")
			continue
		}
		is(t, fmt.Sprint(n), x, ratOf(want))
		want.Mul(want, big.NewRat(65535, 65536))
	}
	random := rand.New(rand.NewSource(9))
	full := fullProcess(random)
	s, e = strategy.Scores(full, randomPlan(random, full), 23, 60)
	is(t, "61 chances", len(ok(t, s, e)), 61)
}
