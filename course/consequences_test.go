package course_test

import (
	"math"
	"math/rand"
	"slices"
	"strings"
	"testing"

	"niblick/api"
	"niblick/card"
	"niblick/course"
)

// motion is a way to change a hole, and what it does to a place.
type motion struct {
	name  string
	hole  func(h course.Hole) (course.Hole, api.Errno)
	place func(p api.Place) api.Place
}

func motions(by api.Place) []motion {
	l := []motion{
		{"moved", func(h course.Hole) (course.Hole, api.Errno) { return course.Moved(h, by) }, func(p api.Place) api.Place { return at(p.X+by.X, p.Y+by.Y) }},
		{"mirrored", course.Mirrored, func(p api.Place) api.Place { return at(-p.X, p.Y) }},
	}
	turn := func(p api.Place) api.Place { return at(-p.Y, p.X) }
	for quarters := 1; quarters <= 3; quarters++ {
		l = append(l, motion{"turned", func(h course.Hole) (course.Hole, api.Errno) { return course.Turned(h, quarters) }, func(p api.Place) api.Place {
			for range quarters {
				p = turn(p)
			}
			return p
		}})
	}
	return l
}

func TestP2_8Motions(t *testing.T) {
	random := rand.New(rand.NewSource(16))
	for range 150 {
		h := randomHole(random, 6)
		for _, m := range motions(randomPlace(random, 1000)) {
			other, e := m.hole(h)
			is(t, m.name, e, api.OK)
			is(t, "still a hole", course.CheckHole(other), api.OK)
			length, _ := course.Length(h)
			otherLength, e := course.Length(other)
			gives(t, "the same length", otherLength, e, length)
			for range 5 {
				a, b := randomPlace(random, 8), randomPlace(random, 8)
				kind, number, _ := course.Locate(h, a)
				otherKind, otherNumber, e := course.Locate(other, m.place(a))
				gives(t, "the same kind", otherKind, e, kind)
				gives(t, "the same area", otherNumber, e, number)
				parts, _ := course.Crosses(h, a, b)
				otherParts, e := course.Crosses(other, m.place(a), m.place(b))
				gives(t, "the same parts", otherParts, e, parts)
			}
		}
	}
}

func TestP2_8TheOtherWayRound(t *testing.T) {
	random := rand.New(rand.NewSource(17))
	for i := range 600 {
		h := randomHole(random, 3+i%5)
		a, b := randomPlace(random, 7), randomPlace(random, 7)
		parts, e := course.Crosses(h, a, b)
		is(t, "there", e, api.OK)
		for i, part := range parts {
			parts[i].From, _ = card.Sub("1", part.To)
			parts[i].To, _ = card.Sub("1", part.From)
		}
		slices.Reverse(parts)
		back, e := course.Crosses(h, b, a)
		gives(t, "and back", back, e, parts)
	}
}

// Each part begins where the one before it ends, and is of another kind.
func TestP2_8PartsAddUp(t *testing.T) {
	random := rand.New(rand.NewSource(18))
	for range 600 {
		h := randomHole(random, 6)
		parts, e := course.Crosses(h, randomPlace(random, 8), randomPlace(random, 8))
		is(t, "Crosses", e, api.OK)
		end, kind := api.Rat("0"), ""
		for _, part := range parts {
			is(t, "From", part.From, end)
			order, e := card.Compare(part.From, part.To)
			gives(t, "the order", order, e, -1)
			is(t, "another kind", part.Kind != kind, true)
			end, kind = part.To, part.Kind
		}
		is(t, "the end", end, "1")
	}
}

func TestP2_8DaysOrAContradiction(t *testing.T) {
	random := rand.New(rand.NewSource(19))
	for range 3000 {
		jobs := 1 + random.Intn(5)
		l := make([]course.Rule, random.Intn(9))
		for i := range l {
			l[i] = course.Rule{From: random.Intn(jobs), To: random.Intn(jobs), Least: random.Intn(9) - 5}
		}
		days, e := course.Earliest(jobs, l)
		_, f := course.Conflict(jobs, l)
		is(t, "days or a contradiction", (e == api.OK) != (f == api.OK), true)
		if e != api.OK {
			continue
		}
		for _, rule := range l {
			is(t, "the condition", days[rule.To] >= days[rule.From]+rule.Least, true)
		}
	}
}

// calls calls all functions.
func calls(h course.Hole, l []api.Place, p, q api.Place, text string, n, m int, rules []course.Rule, numbers []int) []any {
	var all []any
	add := func(results ...any) { all = append(all, results...) }
	one := func(x any, e api.Errno) { add(x, e) }
	two := func(x, y any, e api.Errno) { add(x, y, e) }
	turn, e := course.Turn(p, q, p)
	one(turn, e)
	add(course.CheckPolygon(l), course.CheckHole(h), course.CheckConflict(n, rules, numbers))
	contained, e := course.Contains(l, p)
	one(contained, e)
	twice, e := course.Twice(l)
	one(twice, e)
	kind, number, e := course.Locate(h, p)
	two(kind, number, e)
	parts, e := course.Crosses(h, p, q)
	one(parts, e)
	entry, e := course.Entry(h, p, q, text)
	one(entry, e)
	place, e := course.Relief(h, p, text, n)
	one(place, e)
	length, e := course.Length(h)
	one(length, e)
	printed, e := course.Print(h)
	one(printed, e)
	parsed, line, e := course.Parse(text)
	two(parsed, line, e)
	moved, e := course.Moved(h, p)
	one(moved, e)
	turned, e := course.Turned(h, n)
	one(turned, e)
	mirrored, e := course.Mirrored(h)
	one(mirrored, e)
	earliest, e := course.Earliest(n, rules)
	one(earliest, e)
	_, e = course.Conflict(n, rules)
	add(e)
	used, e := course.Rotation(l, n, m)
	one(used, e)
	rounds, e := course.Rounds(numbers, n)
	one(rounds, e)
	return all
}

// Whatever the arguments are, each function returns.
func TestP1AllArguments(t *testing.T) {
	random := rand.New(rand.NewSource(20))
	extremes := []int{math.MinInt, math.MinInt + 1, math.MinInt32, -1000001, -1000000, -1, 0, 1, 2, 3, 8, 24, 36, 1000000, 1000001, math.MaxInt32, math.MaxInt - 1, math.MaxInt}
	number := func() int { return extremes[random.Intn(len(extremes))] }
	place := func() api.Place { return at(number(), number()) }
	places := func() []api.Place {
		l := make([]api.Place, random.Intn(6))
		for i := range l {
			l[i] = place()
		}
		return l
	}
	texts := []string{"", "\n", " ", "water", "out", "hole", textOfOne, "\x00", "\xff\n", strings.Repeat("\n", 4096), strings.Repeat(" ", 5000), "hole a\ntee 0 0\ncup 0 0\narea green 0,0 1,0 0,1\n"}
	for range 4000 {
		text := texts[random.Intn(len(texts))]
		h := course.Hole{Name: text, Tee: place(), Cup: place(), Line: places()}
		if random.Intn(2) == 0 {
			h = randomHole(random, 5)
		}
		for range random.Intn(3) {
			h.Areas = append(h.Areas, course.Area{Kind: text, Corners: places()})
		}
		rules := make([]course.Rule, random.Intn(4))
		for i := range rules {
			rules[i] = course.Rule{From: number(), To: number(), Least: number()}
		}
		numbers := make([]int, random.Intn(10))
		for i := range numbers {
			numbers[i] = number()
		}
		calls(h, places(), place(), place(), text, number(), number(), rules, numbers)
	}
	calls(course.Hole{}, nil, api.Place{}, api.Place{}, "", 0, 0, nil, nil)
	calls(course.Hole{Name: "a", Line: make([]api.Place, 100000), Areas: make([]course.Area, 100000)}, make([]api.Place, 100000), far, far, strings.Repeat("hole a\n", 10000), 5, 5, make([]course.Rule, 100000), make([]int, 100000))
}

// Arguments remain as they were, and the same call has the same results.
func TestP1ArgumentsRemain(t *testing.T) {
	random := rand.New(rand.NewSource(21))
	for range 300 {
		h, l := randomHole(random, 6), randomPolygon(random, 6)
		rules := append(chain(-5), course.Rule{From: 0, To: 0})
		numbers := []int{2, 1, 3, 3}
		p, q := randomPlace(random, 7), randomPlace(random, 7)
		holeBefore, polygonBefore, rulesBefore, numbersBefore := copied(h), slices.Clone(l), slices.Clone(rules), slices.Clone(numbers)
		before := calls(h, l, p, q, "water", 3, 9, rules, numbers)
		is(t, "the hole", h, holeBefore)
		is(t, "the polygon", l, polygonBefore)
		is(t, "the conditions", rules, rulesBefore)
		is(t, "the numbers", numbers, numbersBefore)
		for i, x := range calls(h, l, p, q, "water", 3, 9, rules, numbers) {
			is(t, "the same result", x, before[i])
		}
	}
}

// Results share no memory with arguments: neither changes with the other.
func TestP1ResultsShareNothing(t *testing.T) {
	spoil := func(h course.Hole) {
		for i := range h.Line {
			h.Line[i] = far
		}
		for i := range h.Areas {
			for j := range h.Areas[i].Corners {
				h.Areas[i].Corners[j] = far
			}
			h.Areas[i].Kind = "sand"
		}
		_, _ = append(h.Line, far), append(h.Areas, course.Area{})
	}
	for _, m := range append(motions(at(0, 0)), motion{"turned by none", func(h course.Hole) (course.Hole, api.Errno) { return course.Turned(h, 4) }, nil}) {
		h := lined()
		h.Line = append(make([]api.Place, 0, 10), h.Line...)
		result, e := m.hole(h)
		is(t, m.name, e, api.OK)
		before := copied(result)
		spoil(h)
		is(t, "the result", result, before)
		h = lined()
		result, _ = m.hole(h)
		spoil(result)
		is(t, "the argument", h, lined())
	}
	a, _, _ := course.Parse(textOfOne)
	spoil(a)
	parses(t, "parsed again", textOfOne, one())
	twins := one()
	twins.Areas[1].Corners = twins.Areas[0].Corners
	mirrored, _ := course.Mirrored(twins)
	mirrored.Areas[0].Corners[0] = far
	is(t, "areas of a result", mirrored.Areas[1].Corners[0], at(10, -20))
}
