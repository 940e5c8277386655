package handicap_test

import (
	"math/big"
	"slices"

	"niblick/api"
	"niblick/handicap"
)

// Slow functions that follow the definitions of the chapter word by word, for arguments without errors.

func bigRat(a api.Rat) *big.Rat {
	x, ok := new(big.Rat).SetString(string(a))
	if !ok {
		panic("no number: " + a)
	}
	return x
}

func rat(x *big.Rat) api.Rat { return api.Rat(x.RatString()) }

func ratOf(num, den int64) api.Rat { return rat(big.NewRat(num, den)) }

func number(n int) *big.Rat { return big.NewRat(int64(n), 1) }

func plus(a, b *big.Rat) *big.Rat { return new(big.Rat).Add(a, b) }

func minus(a, b *big.Rat) *big.Rat { return new(big.Rat).Sub(a, b) }

func times(a, b *big.Rat) *big.Rat { return new(big.Rat).Mul(a, b) }

// rounded returns the multiple of 1/parts that is nearest, of two that are equally near the greater one.
func rounded(x *big.Rat, parts int64) *big.Rat {
	scaled := plus(times(x, big.NewRat(parts, 1)), big.NewRat(1, 2))
	// Div rounds down, as the denominator is above 0.
	floor := new(big.Int).Div(scaled.Num(), scaled.Denom())
	return new(big.Rat).SetFrac(floor, big.NewInt(parts))
}

func roundedInt(x *big.Rat) int { return int(rounded(x, 1).Num().Int64()) }

// slowSorted takes the first of those that are left, one after another.
func slowSorted(l []handicap.Score) []handicap.Score {
	var ordered []handicap.Score
	for left := slices.Clone(l); len(left) > 0; {
		next := 0
		for i, s := range left {
			if s.Day < left[next].Day || s.Day == left[next].Day && s.Number < left[next].Number {
				next = i
			}
		}
		ordered = append(ordered, left[next])
		left = slices.Delete(left, next, next+1)
	}
	return ordered
}

func slowDifferential(s handicap.Score) *big.Rat {
	above := minus(minus(number(s.Gross), bigRat(s.Rating)), number(s.Conditions))
	return rounded(times(above, big.NewRat(100, int64(s.Slope))), 10)
}

// slowRule has the numbers of scores that count in a list.
func slowRule(n int) (int, *big.Rat) {
	counts := []int{0, 0, 0, 1, 1, 2, 2, 2, 3, 3, 4, 4, 4, 5, 5, 6, 6, 6, 7, 7, 8}
	added := map[int]*big.Rat{3: big.NewRat(-3, 2), 4: big.NewRat(-1, 1), 5: big.NewRat(-1, 2)}
	if added[n] != nil {
		return counts[n], added[n]
	}
	return counts[min(n, 20)], new(big.Rat)
}

// slowStep is a step with all that was known there.
type slowStep struct {
	handicap.Step
	index    *big.Rat
	taken    []int // off the scores up to this one, up to this step
	counting []int // numbers, in ascending order
}

func slowHistory(l []handicap.Score) []slowStep {
	var steps []slowStep
	var differentials []*big.Rat
	for i, s := range slowSorted(l) {
		now := slowStep{Step: handicap.Step{Day: s.Day, Number: s.Number, Index: "0"}}
		differential := slowDifferential(s)
		differentials = append(differentials, differential)
		now.Differential = rat(differential)
		now.taken = make([]int, i+1)
		if i > 0 {
			copy(now.taken, steps[i-1].taken)
			if steps[i-1].Known {
				now.Exceptional = slowExceptional(steps[i-1].index, differential)
			}
		}
		m := min(i+1, 20)
		for j := i + 1 - m; j <= i; j++ {
			now.taken[j] += now.Exceptional
		}
		if i+1 >= 3 {
			slowIndex(&now, differentials, steps)
		}
		steps = append(steps, now)
	}
	return steps
}

func numbersOf(steps []slowStep) []int {
	var l []int
	for _, s := range steps {
		l = append(l, s.Number)
	}
	return l
}

func slowExceptional(index, differential *big.Rat) int {
	above := minus(index, differential)
	if above.Cmp(number(10)) >= 0 {
		return 2
	}
	if above.Cmp(number(7)) >= 0 {
		return 1
	}
	return 0
}

// slowIndex sets the index of a step, and what counts there.
func slowIndex(now *slowStep, differentials []*big.Rat, earlier []slowStep) {
	k, added := slowRule(len(differentials))
	var chosen []int
	sum := new(big.Rat)
	var values []*big.Rat
	for i, d := range differentials {
		values = append(values, minus(d, number(now.taken[i])))
	}
	for range k {
		best := -1
		for i := max(0, len(differentials)-20); i < len(differentials); i++ {
			if !slices.Contains(chosen, i) && (best < 0 || values[i].Cmp(values[best]) <= 0) {
				best = i
			}
		}
		chosen = append(chosen, best)
		sum.Add(sum, values[best])
		numbers := append(numbersOf(earlier), now.Number)
		now.counting = append(now.counting, numbers[best])
	}
	slices.Sort(now.counting)
	plain := plus(new(big.Rat).Quo(sum, number(k)), added)
	if low := slowLow(earlier, now.Day); low != nil {
		more := minus(plain, plus(low, number(3)))
		if more.Sign() > 0 {
			plain = plus(plus(low, number(3)), times(more, big.NewRat(1, 2)))
			if highest := plus(low, number(5)); plain.Cmp(highest) > 0 {
				plain = highest
			}
		}
	}
	if plain.Cmp(number(60)) > 0 {
		plain = number(60)
	}
	now.Known, now.index = true, rounded(plain, 10)
	now.Index = rat(now.index)
}

// slowLow returns nil if there is no low.
func slowLow(steps []slowStep, day int) *big.Rat {
	var low *big.Rat
	for back := 1; back <= 365; back++ {
		for _, s := range steps {
			if s.Known && s.Day == day-back && (low == nil || s.index.Cmp(low) < 0) {
				low = s.index
			}
		}
	}
	return low
}

// slowAt returns the index at the end of a day, or nil.
func slowAt(steps []slowStep, day int) *big.Rat {
	var index *big.Rat
	for _, s := range steps {
		if s.Day <= day {
			index = s.index
		}
	}
	return index
}

func slowChanged(a, b []slowStep) []int {
	var l []int
	find := func(steps []slowStep, number int) handicap.Step {
		for _, s := range steps {
			if s.Number == number {
				return s.Step
			}
		}
		return handicap.Step{}
	}
	for number := 1; number <= 1000; number++ {
		if find(a, number) != find(b, number) {
			l = append(l, number)
		}
	}
	return l
}

func slowConditions(l []api.Rat) int {
	if len(l) < 8 {
		return 0
	}
	var x []*big.Rat
	for _, a := range l {
		x = append(x, bigRat(a))
	}
	slices.SortFunc(x, (*big.Rat).Cmp)
	middle := x[len(x)/2]
	if len(x)%2 == 0 {
		middle = times(plus(middle, x[len(x)/2-1]), big.NewRat(1, 2))
	}
	middle = rounded(middle, 1)
	if middle.Cmp(number(-1)) < 0 {
		return -1
	}
	if middle.Cmp(number(3)) > 0 {
		return 3
	}
	return int(middle.Num().Int64())
}

func slowCourse(index api.Rat, slope int, rating api.Rat, par int) int {
	handicap := times(bigRat(index), big.NewRat(int64(slope), 100))
	return roundedInt(plus(handicap, minus(bigRat(rating), number(par))))
}

func slowTeam(l, percents []int) int {
	sum := new(big.Rat)
	for i := range l {
		sum.Add(sum, big.NewRat(int64(l[i]*percents[i]), 100))
	}
	return roundedInt(sum)
}

// slowGiven gives strokes one by one, from the least stroke index on, or takes them away from the greatest one on.
func slowGiven(h []api.Hole, strokes int) []int {
	l := make([]int, len(h))
	at := func(index int) int {
		return slices.IndexFunc(h, func(hole api.Hole) bool { return hole.Index == index })
	}
	for i := range max(strokes, 0) {
		l[at(1+i%len(h))]++
	}
	for i := range max(-strokes, 0) {
		l[at(len(h)-i%len(h))]--
	}
	return l
}

func slowAdjusted(h []api.Hole, c api.Card, course int) int {
	sum := 0
	for i, given := range slowGiven(h, course) {
		limit := h[i].Par + 2 + given
		switch entry := c.Entries[i]; {
		case entry.Mark == "x":
			sum += limit
		case entry.Mark == "-" && h[i].Par+given < 1:
			sum++
		case entry.Mark == "-":
			sum += h[i].Par + given
		case entry.Strokes > limit:
			sum += limit
		default:
			sum += entry.Strokes
		}
	}
	return sum
}
