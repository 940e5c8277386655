package sheet_test

import (
	"fmt"
	"math"
	"math/big"
	"math/rand"
	"reflect"
	"slices"
	"strings"
	"testing"

	"niblick/api"
	"niblick/sheet"
)

// randomPrices returns prices that prove a value, and this value.
func randomPrices(random *rand.Rand, l []sheet.Slot, r []sheet.Request) (sheet.Prices, int) {
	var p sheet.Prices
	value := 0
	for _, s := range l {
		p.Slots = append(p.Slots, random.Intn(8))
		value += s.Places * p.Slots[len(p.Slots)-1]
	}
	for _, q := range r {
		price := 0
		if q.Guaranteed {
			price = -random.Intn(30)
		}
		for _, w := range q.Wishes {
			price = max(price, w.Weight-p.Slots[w.Slot])
		}
		price += max(0, random.Intn(6)-3)
		p.Requests = append(p.Requests, price)
		value += price
	}
	return p, value
}

func TestP8_7NothingAboveAProof(t *testing.T) {
	random := rand.New(rand.NewSource(12))
	tight := 0
	for range 3000 {
		l, r := randomSheet(random)
		p, value := randomPrices(random, l, r)
		is(t, fmt.Sprint(l, r, value, p), sheet.CheckProof(l, r, value, p), api.OK)
		best, e := sheet.Best(l, r)
		if e != api.OK {
			continue
		}
		is(t, "the best", best <= value, true)
		if best == value {
			tight++
		}
		a, feasible := randomAssignment(random, l, r)
		if !feasible {
			continue
		}
		own, e := sheet.CheckAssignment(l, r, a)
		is(t, "another one", ok(t, own, e) <= best, true)
	}
	is(t, "often the same", tight > 100, true)
}

func TestP8_7ServedOrExcluded(t *testing.T) {
	random := rand.New(rand.NewSource(13))
	served, excluded := 0, 0
	for n := range 4000 {
		slots := 1 + random.Intn(7)
		l, r := randomSlots(random, slots), randomRequests(random, random.Intn(13), slots, pick(random, 40, 70, 100), pick(random, 40, 70, 100))
		if n%40 == 0 {
			l, r = largeSheet(random)
		}
		set, e := sheet.Excluded(l, r)
		if e == api.ErrLimit {
			continue
		}
		_, best := sheet.Best(l, r)
		if e == api.OK {
			is(t, "a set that excludes itself", best, api.ErrInfeasible)
			excluded++
			// Without the others they cannot be served, but without any one of them the rest can.
			alone := make([]sheet.Request, 0, len(set))
			for _, i := range set {
				alone = append(alone, r[i])
			}
			_, e := sheet.Best(l, alone)
			is(t, "these alone", e, api.ErrInfeasible)
			_, e = sheet.Best(l, alone[1:])
			is(t, "one less", e, api.OK)
			continue
		}
		is(t, "no such set", e, api.ErrNone)
		is(t, "all are served", best, api.OK)
		served++
	}
	is(t, "often both", served > 500 && excluded > 500, true)
}

func TestP8_7MoreIsNotLess(t *testing.T) {
	random := rand.New(rand.NewSource(14))
	greater := 0
	for n := range 3000 {
		l, r := randomSheet(random)
		if n%30 == 0 {
			l, r = largeSheet(random)
		}
		best, e := sheet.Best(l, r)
		if e != api.OK || len(l) == 0 || len(r) == 0 {
			continue
		}
		most, e := sheet.Most(l, r)
		ok(t, most, e)
		j, i := random.Intn(len(l)), random.Intn(len(r))
		further, wished := slices.Clone(l), slices.Clone(r)
		further[j].Places = min(8, further[j].Places+1)
		at := len(r[i].Wishes)
		for k, w := range slices.Backward(r[i].Wishes) {
			if w.Slot > j {
				at = k
			}
		}
		if _, has := wishOf(r[i], j); !has {
			wished[i].Wishes = slices.Insert(slices.Clone(r[i].Wishes), at, sheet.Wish{Slot: j, Weight: 1 + random.Intn(10)})
		}
		for _, other := range []struct {
			l []sheet.Slot
			r []sheet.Request
		}{{further, r}, {l, wished}, {further, wished}} {
			value, e := sheet.Best(other.l, other.r)
			is(t, "the best", ok(t, value, e) >= best, true)
			served, e := sheet.Most(other.l, other.r)
			is(t, "the most", ok(t, served, e) >= most, true)
			if value > best {
				greater++
			}
		}
	}
	is(t, "often greater", greater > 500, true)
}

func TestP8_7WithdrawalChangesTwo(t *testing.T) {
	random := rand.New(rand.NewSource(15))
	two := 0
	for n := range 3000 {
		l, r := randomSheet(random)
		if n%20 == 0 {
			l, r = largeSheet(random)
		}
		a, feasible := randomAssignment(random, l, r)
		if !feasible {
			continue
		}
		for i := range r {
			after, e := sheet.Withdraw(l, r, a, i)
			if a[i] == -1 {
				continue
			}
			changed := 0
			for k := range ok(t, after, e) {
				if after[k] != a[k] {
					changed++
				}
			}
			is(t, "one or two", changed == 1 || changed == 2, true)
			if changed == 2 {
				two++
			}
			// What is left is an assignment of the others.
			others := slices.Clone(r)
			others[i].Guaranteed = false
			_, e = sheet.CheckAssignment(l, others, after)
			is(t, "an assignment", e, api.OK)
		}
	}
	is(t, "often two", two > 500, true)
}

func TestP8_7NobodyOvertakes(t *testing.T) {
	random := rand.New(rand.NewSource(16))
	for n := range 1000 {
		p := randomPace(random, 1+random.Intn(9), 1+random.Intn(9))
		if n%20 == 0 {
			p = randomPace(random, 24, 36)
		}
		begins, e := sheet.Begins(p)
		ends, e2 := sheet.Ends(p)
		delays, e3 := sheet.Delays(p)
		ok(t, begins, e)
		ok(t, delays, e3)
		for g, holes := range ok(t, ends, e2) {
			is(t, "a delay", delays[g] >= 0, true)
			for h := range holes {
				is(t, "the minutes", holes[h]-begins[g][h] >= p.Minutes[g][h], true)
				if g > 0 {
					is(t, "begins", begins[g][h] >= begins[g-1][h], true)
					is(t, "ends", ends[g][h] >= ends[g-1][h], true)
				}
				if h > 0 {
					is(t, "comes", begins[g][h] >= ends[g][h-1], true)
				}
				// No more groups are on a hole than it holds.
				if before := g - p.Holds[h]; before >= 0 {
					is(t, "room", begins[g][h] >= ends[before][h], true)
				}
			}
		}
	}
}

// The matrix of holes says when a group ends them if all groups need the same minutes.
func TestP8_7HolesSayWhenGroupsEnd(t *testing.T) {
	random := rand.New(rand.NewSource(17))
	for range 300 {
		var minutes []int
		for range 1 + random.Intn(24) {
			minutes = append(minutes, 1+random.Intn(pick(random, 3, 20, 10000)))
		}
		holes := len(minutes)
		p := sheet.Pace{Ready: make([]int, 1+random.Intn(12)), Holds: slices.Repeat([]int{1}, holes)}
		for range p.Ready {
			p.Minutes = append(p.Minutes, minutes)
		}
		ends, e := sheet.Ends(p)
		ok(t, ends, e)
		m, e := sheet.Holes(minutes)
		ok(t, m, e)
		for g := range ends[1:] {
			x, e := sheet.Apply(m, ends[g])
			gives(t, "the next group", x, e, ends[g+1])
		}
		power, e := sheet.Power(m, len(p.Ready))
		x, e2 := sheet.Apply(ok(t, power, e), slices.Repeat([]int{0}, holes))
		gives(t, "the last group", x, e2, ends[len(ends)-1])
		// In the end one group comes after another in the minutes of the slowest hole.
		of, e := mean(m)
		is(t, "the slowest hole", ok(t, of, e).mean, api.Rat(fmt.Sprint(slices.Max(minutes))))
	}
}

func TestP8_7PowersAddUp(t *testing.T) {
	random := rand.New(rand.NewSource(18))
	added := 0
	for n := range 600 {
		rows := 1 + random.Intn(5)
		if n%30 == 0 {
			rows = 24
		}
		m := randomMatrix(random, rows, pick(random, 10, 40, 100))
		a, b := random.Intn(33), random.Intn(33)
		first, e := sheet.Power(m, a)
		second, e2 := sheet.Power(m, b)
		if e != api.OK || e2 != api.OK {
			continue
		}
		product, e := sheet.Product(first, second)
		both, e2 := sheet.Power(m, a+b)
		is(t, "the same error", e, e2)
		is(t, fmt.Sprint(m, a, b), product, both)
		if e == api.OK {
			added++
			x := first[0]
			one, e := sheet.Apply(both, x)
			two, e2 := sheet.Apply(second, x)
			if e == api.OK && e2 == api.OK {
				two, e2 = sheet.Apply(first, two)
				gives(t, "one after another", two, e2, one)
			}
		}
	}
	is(t, "often added", added > 300, true)
}

// fastest returns the greatest sum of a walk of so many steps that its mean permits: a way without a cycle, and only the best cycles beside it.
func fastest(ways [][][]*big.Int, i, k, steps int, mean *big.Rat) *big.Rat {
	var greatest *big.Rat
	for length, way := range ways[:min(len(ways), steps+1)] {
		if way[i][k] == nil {
			continue
		}
		sum := new(big.Rat).Mul(mean, big.NewRat(int64(steps-length), 1))
		sum.Add(sum, new(big.Rat).SetInt(way[i][k]))
		if greatest == nil || sum.Cmp(greatest) > 0 {
			greatest = sum
		}
	}
	return greatest
}

func TestP8_7PowersGrowNoFasterThanTheMean(t *testing.T) {
	random := rand.New(rand.NewSource(19))
	reached := 0
	for range 300 {
		rows := 1 + random.Intn(4)
		m := randomMatrix(random, rows, pick(random, 20, 50, 100))
		of, e := mean(m)
		if e == api.ErrNone {
			power, e := sheet.Power(m, rows)
			is(t, "nothing is left", slices.Max(slices.Concat(ok(t, power, e)...)), sheet.None)
			continue
		}
		greatest, _ := new(big.Rat).SetString(string(ok(t, of, e).mean))
		var ways [][][]*big.Int
		for length := range rows {
			ways = append(ways, slowPower(m, length))
		}
		for _, steps := range []int{0, 1, 2, 3, 4, 5, 6, 12, 13, 63, 64} {
			power, e := sheet.Power(m, steps)
			if e != api.OK {
				continue
			}
			for i, row := range power {
				for k, n := range row {
					if n == sheet.None {
						continue
					}
					most := fastest(ways, i, k, steps, greatest)
					is(t, fmt.Sprint(m, steps), big.NewRat(int64(n), 1).Cmp(most) <= 0, true)
					if i == k {
						most.Mul(greatest, big.NewRat(int64(steps), 1))
						compared := big.NewRat(int64(n), 1).Cmp(most)
						is(t, fmt.Sprint(m, steps, " back again"), compared <= 0, true)
						if compared == 0 && steps > rows {
							reached++
						}
					}
				}
			}
		}
	}
	is(t, "often as fast", reached > 300, true)
}

// A matrix with 24 rows goes around the cycle of Mean as fast as its mean, and no row comes back faster.
func TestP8_7LargeMatricesGrowNoFaster(t *testing.T) {
	random := rand.New(rand.NewSource(22))
	for range 20 {
		m := randomMatrix(random, 24, pick(random, 10, 30, 100))
		for i := range m {
			for k := range m {
				if m[i][k] != sheet.None {
					m[i][k] %= 1000000
				}
			}
		}
		of, e := mean(m)
		greatest, _ := new(big.Rat).SetString(string(ok(t, of, e).mean))
		for _, steps := range []int{1, 2, 23, 24, 25, len(of.cycle), 64} {
			power, e := sheet.Power(m, steps)
			most := new(big.Rat).Mul(greatest, big.NewRat(int64(steps), 1))
			for i := range ok(t, power, e) {
				if power[i][i] != sheet.None {
					is(t, "back again", big.NewRat(int64(power[i][i]), 1).Cmp(most) <= 0, true)
				}
			}
			if steps == len(of.cycle) {
				is(t, "the cycle itself", ratOf(big.NewRat(int64(power[of.cycle[0]][of.cycle[0]]), 1)), ratOf(most))
			}
		}
	}
}

// anyQuestion spoils some arguments of a question without regard to what they mean.
func anyQuestion(random *rand.Rand, q question) question {
	extremes := []int{math.MinInt, math.MinInt + 1, -1000000001, -1000000000, -999999999, -2, -1, 0, 0, 1, 1, 2, 3, 8, 9, 23, 24, 25, 36, 37, 64, 65, 9999, 10000, 10001, 999999999, 1000000000, math.MaxInt - 1, math.MaxInt}
	number := func() int { return pick(random, extremes...) }
	numbers := func() []int {
		var l []int
		for range random.Intn(5) {
			l = append(l, number())
		}
		return l
	}
	rows := func() [][]int {
		var m [][]int
		for range random.Intn(4) {
			m = append(m, numbers())
		}
		return m
	}
	wishes := func() []sheet.Wish {
		var l []sheet.Wish
		for range random.Intn(4) {
			l = append(l, sheet.Wish{Slot: number(), Weight: number()})
		}
		return l
	}
	request := func() sheet.Request {
		return sheet.Request{Name: pick(random, "", " ", "x", "ann", "q0", "\xff", strings.Repeat("a", 5000)), Guaranteed: random.Intn(2) == 0, Wishes: wishes()}
	}
	switch random.Intn(9) {
	case 0:
		q.slots = append(q.slots, sheet.Slot{Minute: number(), Hole: number(), Places: number()})
	case 1:
		q.first, q.last, q.interval, q.places = number(), number(), number(), number()
		q.minute, q.holes, q.each = number(), number(), number()
		q.sunrise, q.sunset, q.round = number(), number(), number()
	case 2:
		q.requests, q.party, q.crowd = append(q.requests, request()), append(q.party, request()), append(q.crowd, request())
	case 3:
		q.slots = q.slots[:len(q.slots)/2]
	case 4:
		q.assignment, q.request = numbers(), number()
	case 5:
		q.value, q.prices = number(), sheet.Prices{Requests: numbers(), Slots: numbers()}
	case 6:
		q.pace = sheet.Pace{Ready: numbers(), Minutes: rows(), Holds: numbers()}
	case 7:
		q.m, q.other, q.n = rows(), rows(), number()
	case 8:
		q.x, q.cycle, q.minutes = numbers(), numbers(), numbers()
	}
	return q
}

// randomQuestion returns a question that is mostly answered without errors.
func randomQuestion(random *rand.Rand) question {
	q := fresh()
	q.slots, q.requests = randomSheet(random)
	q.party = randomRequests(random, random.Intn(6), len(q.slots), 20, 70)
	q.crowd = randomRequests(random, random.Intn(9), len(q.slots), 90, 50)
	q.assignment, _ = randomAssignment(random, q.slots, q.requests)
	q.request = random.Intn(len(q.requests) + 1)
	q.prices, q.value = randomPrices(random, q.slots, q.requests)
	q.pace = randomPace(random, 1+random.Intn(5), 1+random.Intn(5))
	q.m, q.other = randomMatrix(random, 3, 70), randomMatrix(random, 3, 70)
	q.n = random.Intn(6)
	q.cycle = random.Perm(3)[:1+random.Intn(3)]
	return q
}

// Whatever the arguments are, each function returns.
func TestP1AllArguments(t *testing.T) {
	random := rand.New(rand.NewSource(20))
	for range 5000 {
		q := randomQuestion(random)
		for range 1 + random.Intn(3) {
			q = anyQuestion(random, q)
		}
		answers(q)
	}
	answers(question{})
	const great = 100000
	wishes := make([]sheet.Wish, great)
	for i := range wishes {
		wishes[i] = sheet.Wish{Slot: i, Weight: 1}
	}
	named := make([]sheet.Request, great)
	for i := range named {
		named[i].Name = fmt.Sprint("n", i)
	}
	square := make([][]int, great)
	answers(question{
		slots: make([]sheet.Slot, great), first: great, holes: great, requests: make([]sheet.Request, great), party: named, crowd: named,
		assignment: make([]int, great), pace: sheet.Pace{Ready: make([]int, great), Minutes: square, Holds: make([]int, great)},
		m: square, other: square, n: great, x: make([]int, great), cycle: upTo(great), minutes: make([]int, great),
	})
	few := fresh()
	few.requests = []sheet.Request{{Name: "ann", Wishes: wishes}}
	few.party, few.crowd = named, few.requests
	few.assignment, few.prices = make([]int, great), sheet.Prices{Requests: make([]int, great), Slots: make([]int, great)}
	few.pace.Minutes, few.other, few.x, few.cycle = square, square, make([]int, great), upTo(great)
	answers(few)
}

// Arguments remain as they were, and the same call has the same results.
func TestP1ArgumentsRemain(t *testing.T) {
	for seed := range int64(1000) {
		again := func() question { return randomQuestion(rand.New(rand.NewSource(seed))) }
		q := again()
		before := answers(q)
		is(t, "the arguments", q, again())
		for i, a := range answers(q) {
			is(t, "the same results", a, before[i])
		}
	}
}

// region is memory that a list has, also behind its end.
type region struct {
	from, to uintptr
}

// regions returns the memory of all lists in a value.
func regions(v reflect.Value) []region {
	var l []region
	switch v.Kind() {
	case reflect.Slice:
		size := uintptr(v.Cap()) * v.Type().Elem().Size()
		if size > 0 {
			l = append(l, region{v.Pointer(), v.Pointer() + size})
		}
		for i := range v.Len() {
			l = append(l, regions(v.Index(i))...)
		}
	case reflect.Struct:
		for i := range v.NumField() {
			l = append(l, regions(v.Field(i))...)
		}
	case reflect.Interface:
		return regions(v.Elem())
	}
	return l
}

// Results share no memory with arguments, or with each other.
func TestP1ResultsShareNothing(t *testing.T) {
	random := rand.New(rand.NewSource(21))
	for i := range 300 {
		q := fresh()
		if i > 0 {
			q = randomQuestion(random)
		}
		arguments := regions(reflect.ValueOf(q))
		for _, a := range answers(q) {
			results := regions(reflect.ValueOf(a.value))
			for j, r := range results {
				for _, other := range append(slices.Clone(arguments), results[j+1:]...) {
					if r.from < other.to && other.from < r.to {
						t.Errorf("%s has a result that shares memory", a.name)
					}
				}
			}
		}
	}
}
