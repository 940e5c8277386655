package strategy_test

import (
	"fmt"
	"math/rand"
	"testing"

	"niblick/api"
	"niblick/strategy"
)

func TestP9_1Endless(t *testing.T) {
	for _, x := range []struct {
		what string
		p    strategy.Process
		want []int
	}{
		{"the example", sample(), nil},
		{"a sure stroke", process("a x=-1:1"), nil},
		{"a stroke that stays", process("a x=0:1"), []int{0}},
		{"a club that stays", process("a x=-1:1 y=0+9:1"), []int{0}},
		{"a small chance of the hole", process("a x=0:65535/65536,-1:1/65536"), nil},
		{"to and fro", process("a x=1:1 y=-1:1", "b x=-1:1 y=0:1"), []int{0, 1}},
		{"a way to where it stays", process("a x=2:1 y=-1:1", "b x=-1:1", "c x=-1:1 y=2:1"), []int{0, 2}},
		{"perhaps to where it stays", process("a x=1:1/2,2:1/2", "b x=-1:1", "c x=2:1"), []int{2}},
		{"all of three", process("a x=1:1", "b x=2:1", "c x=0:1"), []int{0, 1, 2}},
		{"one leads out", process("a x=1:1", "b x=2:1", "c x=0:1/2,-1:1/2"), nil},
		{"out of the middle", process("a x=0:1", "b x=-1:1", "c x=1:1/2,0:1/2", "d x=0:1/2,3:1/2"), []int{0, 3}},
	} {
		l, e := strategy.Endless(x.p)
		gives(t, x.what, l, e, x.want)
	}
	l, e := strategy.Endless(strategy.Process{})
	fails(t, "no states", l, e, api.ErrEmpty)
}

func TestP9_1Ends(t *testing.T) {
	to := process("a x=1:1 y=-1:1", "b x=-1:1 y=0:1")
	stuck := process("a x=1:1/2,2:1/2 y=1:1", "b x=-1:1", "c x=2:1 y=-1:1/65536,2:65535/65536")
	for _, x := range []struct {
		what string
		p    strategy.Process
		plan []int
		want []int
	}{
		{"the example", sample(), []int{0, 0, 0}, []int{0, 1, 2}},
		{"to and fro", to, []int{0, 1}, nil},
		{"through the other one", to, []int{0, 0}, []int{0, 1}},
		{"each one alone", to, []int{1, 0}, []int{0, 1}},
		{"perhaps stuck", stuck, []int{0, 0, 0}, []int{1}},
		{"not there", stuck, []int{1, 0, 0}, []int{0, 1}},
		{"not stuck for ever", stuck, []int{0, 0, 1}, []int{0, 1, 2}},
		{"a way to a way to where it stays", process("a x=1:1/2,-1:1/2", "b x=2:1/2,-1:1/2", "c x=2:1"), []int{0, 0, 0}, nil},
		{"of five", process("a x=4:1", "b x=0:1/2,-1:1/2", "c x=2:1/2,3:1/2", "d x=3:1", "e x=-1:1"), make([]int, 5), []int{0, 1, 4}},
	} {
		l, e := strategy.Ends(x.p, x.plan)
		gives(t, x.what, l, e, x.want)
	}
	l, e := strategy.Ends(sample(), []int{0, 1, 0})
	fails(t, "no such club", l, e, api.ErrUnknown)
}

func TestP9_1AsDefined(t *testing.T) {
	random := rand.New(rand.NewSource(2))
	endless, ending, some := 0, 0, 0
	for range 3000 {
		p := randomProcess(random, 1+random.Intn(6), 3, 1+random.Intn(3))
		is(t, "a process", strategy.CheckProcess(p), api.OK)
		l, e := strategy.Endless(p)
		gives(t, fmt.Sprint("Endless ", p), l, e, slowEndless(p))
		if len(l) > 0 {
			endless++
		}
		plan := randomPlan(random, p)
		is(t, "a plan", strategy.CheckPlan(p, plan), api.OK)
		ends, e := strategy.Ends(p, plan)
		gives(t, fmt.Sprint("Ends ", p, plan), ends, e, slowEnds(p, plan))
		switch {
		case len(ends) == len(p.States):
			ending++
		case len(ends) > 0:
			some++
		}
	}
	is(t, "often each", endless > 300 && ending > 300 && some > 100, true)
}

// There are no endless states exactly if all plans end from all states.
func TestP9_1NoneIsEndlessIfAllPlansEnd(t *testing.T) {
	random := rand.New(rand.NewSource(3))
	for range 1000 {
		p := smallProcess(random)
		all := true
		plans(p, func(plan []int) {
			ends, e := strategy.Ends(p, plan)
			all = all && len(ok(t, ends, e)) == len(p.States)
		})
		endless, e := strategy.Endless(p)
		is(t, fmt.Sprint(p), len(ok(t, endless, e)) == 0, all)
	}
}
