package rating_test

import (
	"fmt"
	"math/big"
	"math/rand"
	"reflect"
	"slices"
	"strings"
	"testing"

	"niblick/api"
	"niblick/rating"
)

// same compares values; nil and empty lists are equal.
func same(a, b reflect.Value) bool {
	switch a.Kind() {
	case reflect.Slice:
		if a.Len() != b.Len() {
			return false
		}
		for i := range a.Len() {
			if !same(a.Index(i), b.Index(i)) {
				return false
			}
		}
		return true
	case reflect.Struct:
		for i := range a.NumField() {
			if !same(a.Field(i), b.Field(i)) {
				return false
			}
		}
		return true
	case reflect.Interface:
		return same(a.Elem(), b.Elem())
	}
	return a.Equal(b)
}

// alike reports whether two values of one type are equal.
func alike[T any](a, b T) bool {
	return same(reflect.ValueOf(&a).Elem(), reflect.ValueOf(&b).Elem())
}

// is compares a result with what the document requires.
func is[T any](t *testing.T, what string, got, want T) {
	t.Helper()
	if !alike(got, want) {
		t.Errorf("%s: got %v, want %v", what, got, want)
	}
}

// fails checks an error, and that the result beside it is the zero value.
func fails[T any](t *testing.T, what string, got T, e, want api.Errno) {
	t.Helper()
	if e != want || !alike(got, *new(T)) {
		t.Errorf("%s: got %v and the error %d, want the error %d alone", what, got, e, want)
	}
}

// gives checks a result without an error.
func gives[T any](t *testing.T, what string, got T, e api.Errno, want T) {
	t.Helper()
	if e != api.OK || !alike(got, want) {
		t.Errorf("%s: got %v and the error %d, want %v", what, got, e, want)
	}
}

// result checks a number, or its error if it is too large.
func result(t *testing.T, what string, got api.Rat, e api.Errno, want *big.Rat) {
	t.Helper()
	if !fits(want) {
		fails(t, what, got, e, api.ErrLarge)
		return
	}
	gives(t, what, got, e, rat(want))
}

// defect spoils arguments that are right.
type defect[T any] struct {
	name  string
	spoil func(x *T)
	want  api.Errno
}

// inOrder checks that each defect has its error, and that of two defects the one that is named first decides.
func inOrder[T any](t *testing.T, fresh func() T, call func(t *testing.T, what string, x T, want api.Errno), defects []defect[T]) {
	t.Helper()
	for i, d := range defects {
		x := fresh()
		d.spoil(&x)
		call(t, d.name, x, d.want)
		for _, later := range defects[i+1:] {
			x := fresh()
			later.spoil(&x)
			d.spoil(&x)
			call(t, d.name+" and "+later.name, x, d.want)
		}
	}
}

// badNumbers are texts with their errors.
var badNumbers = []struct {
	text api.Rat
	e    api.Errno
}{
	{"", api.ErrForm},
	{"-0", api.ErrForm},
	{"2/4", api.ErrForm},
	{"100 ", api.ErrForm},
	{"1" + api.Rat(strings.Repeat("0", 600)), api.ErrLarge},
	{"1/" + most + "0", api.ErrLarge},
}

// most is the greatest integer that is a number.
var most = api.Rat(strings.Repeat("9", 600))

func rat(x *big.Rat) api.Rat {
	return api.Rat(x.RatString())
}

func bigRat(a api.Rat) *big.Rat {
	x, ok := new(big.Rat).SetString(string(a))
	if !ok {
		panic("no number: " + a)
	}
	return x
}

// fits reports whether a number has no more than MaxDigits digits above and below.
func fits(x *big.Rat) bool {
	return len(strings.TrimPrefix(x.Num().String(), "-")) <= api.MaxDigits && len(x.Denom().String()) <= api.MaxDigits
}

func ratOf(num, den int64) api.Rat { return rat(big.NewRat(num, den)) }

// sample returns the course C of the chapter's examples.
func sample() rating.Course {
	return rating.Course{
		Sites: []rating.Site{
			{Rise: "10", Wind: "0", Layup: "0", Roll: "20", Obstacles: []rating.Obstacle{{Kind: "bunker", Value: 5}, {Kind: "water", Value: 2}}},
			{Rise: "-20", Wind: "5", Layup: "15", Roll: "0"},
		},
		Tees: []rating.Tee{{Name: "blue", Lengths: []int{410, 150}}},
		Levels: []rating.Level{
			{Name: "scratch", First: "240", Next: "200", Strokes: []api.Point{{X: "100", Y: "3"}, {X: "500", Y: "5"}}, Weights: []rating.Weight{{Kind: "bunker", Strokes: "1/2"}, {Kind: "water", Strokes: "1"}}},
			{Name: "bogey", First: "180", Next: "160", Strokes: []api.Point{{X: "100", Y: "3"}, {X: "500", Y: "6"}}, Weights: []rating.Weight{{Kind: "water", Strokes: "2"}}},
		},
	}
}

// flat returns a course with so many plain holes, and levels that take so many strokes for each of them.
func flat(holes int, strokes ...api.Rat) rating.Course {
	c := rating.Course{Tees: []rating.Tee{{Name: "red", Lengths: slices.Repeat([]int{100}, holes)}}}
	for range holes {
		c.Sites = append(c.Sites, plain())
	}
	for i, y := range strokes {
		c.Levels = append(c.Levels, rating.Level{Name: fmt.Sprint("level", i), First: "200", Next: "150", Strokes: []api.Point{{X: "0", Y: y}}})
	}
	return c
}

func plain() rating.Site {
	return rating.Site{Rise: "0", Wind: "0", Layup: "0", Roll: "0"}
}

// copied returns a course that shares nothing with another one.
func copied(c rating.Course) rating.Course {
	c.Sites, c.Tees, c.Levels = slices.Clone(c.Sites), slices.Clone(c.Tees), slices.Clone(c.Levels)
	for i := range c.Sites {
		c.Sites[i].Obstacles = slices.Clone(c.Sites[i].Obstacles)
	}
	for i := range c.Tees {
		c.Tees[i].Lengths = slices.Clone(c.Tees[i].Lengths)
	}
	for i := range c.Levels {
		c.Levels[i].Strokes = slices.Clone(c.Levels[i].Strokes)
		c.Levels[i].Weights = slices.Clone(c.Levels[i].Weights)
	}
	return c
}

// question is what the functions with a course are asked for.
type question struct {
	tee, hole, level, other int
	scores                  []int
}

// answer is what a function returned; uses are the arguments t(ee), h(ole), l(evel), o(ther level) and s(cores) that it has.
type answer struct {
	name, uses string
	values     []any
	e          api.Errno
}

// answers asks all functions with a course.
func answers(c rating.Course, q question) []answer {
	var all []answer
	one := func(name, uses string) func(x any, e api.Errno) {
		return func(x any, e api.Errno) { all = append(all, answer{name, uses, []any{x}, e}) }
	}
	number := func(name, uses string) func(x api.Rat, e api.Errno) {
		return func(x api.Rat, e api.Errno) { one(name, uses)(x, e) }
	}
	integer := func(name, uses string) func(n int, e api.Errno) {
		return func(n int, e api.Errno) { one(name, uses)(n, e) }
	}
	number("Played", "th")(rating.Played(c, q.tee, q.hole))
	integer("Full", "thl")(rating.Full(c, q.tee, q.hole, q.level))
	number("Effective", "thl")(rating.Effective(c, q.tee, q.hole, q.level))
	number("Obstacles", "hl")(rating.Obstacles(c, q.hole, q.level))
	number("Hole", "thl")(rating.Hole(c, q.tee, q.hole, q.level))
	number("Exact", "tl")(rating.Exact(c, q.tee, q.level))
	number("Rating", "tl")(rating.Rating(c, q.tee, q.level))
	integer("Slope", "tlo")(rating.Slope(c, q.tee, q.level, q.other))
	number("Drift", "tls")(rating.Drift(c, q.tee, q.level, q.scores))
	table, e := rating.Table(c)
	one("Table", "")(table, e)
	indices, e := rating.Indices(c, q.tee, q.level, q.other)
	one("Indices", "tlo")(indices, e)
	out, in, e := rating.Nines(c, q.tee, q.level)
	all = append(all, answer{"Nines", "tl", []any{out, in}, e})
	return all
}

// refuses checks the error of an answer, and that each result beside it is the zero value.
func refuses(t *testing.T, what string, a answer, want api.Errno) {
	t.Helper()
	if a.e != want {
		t.Errorf("%s: %s has the error %d, want %d", what, a.name, a.e, want)
	}
	for _, x := range a.values {
		if v := reflect.ValueOf(x); !v.IsZero() && (v.Kind() != reflect.Slice || v.Len() > 0) {
			t.Errorf("%s: %s has the result %v beside an error", what, a.name, x)
		}
	}
}

// slow follows the definitions of the chapter word by word, with the numbers of the library.
type slow struct {
	c rating.Course
}

func plus(a, b *big.Rat) *big.Rat  { return new(big.Rat).Add(a, b) }
func minus(a, b *big.Rat) *big.Rat { return new(big.Rat).Sub(a, b) }
func times(a, b *big.Rat) *big.Rat { return new(big.Rat).Mul(a, b) }
func over(a, b *big.Rat) *big.Rat  { return new(big.Rat).Quo(a, b) }
func whole(n int) *big.Rat         { return big.NewRat(int64(n), 1) }

func (s slow) played(tee, hole int) *big.Rat {
	site := s.c.Sites[hole]
	length := whole(s.c.Tees[tee].Lengths[hole])
	for _, a := range []api.Rat{site.Rise, site.Wind, site.Layup} {
		length = plus(length, bigRat(a))
	}
	if length.Sign() < 0 {
		return new(big.Rat)
	}
	return length
}

func (s slow) full(tee, hole, level int) int {
	first, next, roll := bigRat(s.c.Levels[level].First), bigRat(s.c.Levels[level].Next), bigRat(s.c.Sites[hole].Roll)
	for n := 1; ; n++ {
		reach := plus(plus(first, times(whole(n-1), next)), times(whole(n), roll))
		if reach.Cmp(s.played(tee, hole)) >= 0 {
			return n
		}
	}
}

func (s slow) effective(tee, hole, level int) *big.Rat {
	first, next, roll := bigRat(s.c.Levels[level].First), bigRat(s.c.Levels[level].Next), bigRat(s.c.Sites[hole].Roll)
	p := s.played(tee, hole)
	if p.Cmp(plus(first, roll)) <= 0 {
		return over(times(p, first), plus(first, roll))
	}
	return plus(first, over(times(minus(minus(p, first), roll), next), plus(next, roll)))
}

func value(table []api.Point, x *big.Rat) *big.Rat {
	for i, p := range table {
		if x.Cmp(bigRat(p.X)) >= 0 {
			continue
		}
		if i == 0 {
			return bigRat(p.Y)
		}
		x0, y0, x1, y1 := bigRat(table[i-1].X), bigRat(table[i-1].Y), bigRat(p.X), bigRat(p.Y)
		return plus(y0, over(times(minus(x, x0), minus(y1, y0)), minus(x1, x0)))
	}
	return bigRat(table[len(table)-1].Y)
}

func (s slow) obstacles(hole, level int) *big.Rat {
	sum := new(big.Rat)
	for _, o := range s.c.Sites[hole].Obstacles {
		for _, w := range s.c.Levels[level].Weights {
			if w.Kind == o.Kind {
				sum = plus(sum, times(bigRat(w.Strokes), big.NewRat(int64(o.Value), 10)))
			}
		}
	}
	return sum
}

func (s slow) hole(tee, hole, level int) *big.Rat {
	return plus(value(s.c.Levels[level].Strokes, s.effective(tee, hole, level)), s.obstacles(hole, level))
}

// part returns the sum of the ratings of some holes.
func (s slow) part(tee, level, from, to int) *big.Rat {
	sum := new(big.Rat)
	for hole := from; hole < to; hole++ {
		sum = plus(sum, s.hole(tee, hole, level))
	}
	return sum
}

func (s slow) exact(tee, level int) *big.Rat { return s.part(tee, level, 0, len(s.c.Sites)) }

// rounded returns the multiple of 1/parts that is nearest.
func rounded(x *big.Rat, parts int64) *big.Rat {
	x = plus(times(x, big.NewRat(parts, 1)), big.NewRat(1, 2))
	// With a divisor above 0, Div rounds downwards.
	return new(big.Rat).SetFrac(new(big.Int).Div(x.Num(), x.Denom()), big.NewInt(parts))
}

func (s slow) slope(tee, good, weak int) int {
	x := rounded(times(whole(5), minus(s.exact(tee, weak), s.exact(tee, good))), 1)
	if x.Cmp(whole(55)) < 0 {
		return 55
	}
	if x.Cmp(whole(155)) > 0 {
		return 155
	}
	return int(x.Num().Int64())
}

// indices counts the holes that come before a hole.
func (s slow) indices(tee, good, weak int) []int {
	var differences []*big.Rat
	for hole := range s.c.Sites {
		differences = append(differences, minus(s.hole(tee, hole, weak), s.hole(tee, hole, good)))
	}
	var indices []int
	for i, x := range differences {
		index := 1
		for j, y := range differences {
			if y.Cmp(x) > 0 || y.Cmp(x) == 0 && j < i {
				index++
			}
		}
		indices = append(indices, index)
	}
	return indices
}

// randomBetween returns a number from one integer to another one, often one of them, with at most so many digits below.
func randomBetween(random *rand.Rand, from, to, digits int) api.Rat {
	switch random.Intn(8) {
	case 0:
		return rat(whole(from))
	case 1:
		return rat(whole(to))
	case 2, 3:
		return rat(whole(from + random.Intn(to-from+1)))
	}
	limit := new(big.Int).Exp(big.NewInt(10), big.NewInt(int64(digits)), nil)
	den := new(big.Int).Rand(random, limit)
	den.Add(den, big.NewInt(1))
	part := new(big.Rat).SetFrac(new(big.Int).Rand(random, den), den)
	return rat(plus(whole(from), times(part, whole(to-from))))
}

// kinds are those of the obstacles of random courses.
var kinds = []string{"bunker", "water", "tree", "green"}

func randomSite(random *rand.Rand, digits int) rating.Site {
	s := rating.Site{
		Rise:  randomBetween(random, -60, 60, digits),
		Wind:  randomBetween(random, -60, 60, digits),
		Layup: randomBetween(random, 0, 40, digits),
		Roll:  randomBetween(random, 0, 40, digits),
	}
	for range random.Intn(4) {
		s.Obstacles = append(s.Obstacles, rating.Obstacle{Kind: kinds[random.Intn(len(kinds))], Value: random.Intn(11)})
	}
	return s
}

func randomLevel(random *rand.Rand, name string, digits int) rating.Level {
	l := rating.Level{
		Name:  name,
		First: randomBetween(random, 60, 300, digits),
		Next:  randomBetween(random, 40, 250, digits),
	}
	x, y := new(big.Rat), whole(random.Intn(3))
	for range 1 + random.Intn(5) {
		l.Strokes = append(l.Strokes, api.Point{X: rat(x), Y: rat(y)})
		x = plus(x, bigRat(randomBetween(random, 1, 150, digits)))
		y = plus(y, bigRat(randomBetween(random, 0, 2, digits)))
		if !fits(x) || !fits(y) {
			break
		}
	}
	for _, i := range random.Perm(len(kinds))[:random.Intn(len(kinds)+1)] {
		l.Weights = append(l.Weights, rating.Weight{Kind: kinds[i], Strokes: randomBetween(random, 0, 2, digits)})
	}
	return l
}

// randomCourse returns a course whose numbers have at most so many digits below.
func randomCourse(random *rand.Rand, digits int) rating.Course {
	var c rating.Course
	for range 1 + random.Intn(6) {
		c.Sites = append(c.Sites, randomSite(random, digits))
	}
	for i := range 1 + random.Intn(3) {
		tee := rating.Tee{Name: fmt.Sprint("tee", i)}
		for range c.Sites {
			tee.Lengths = append(tee.Lengths, 1+random.Intn(600))
		}
		c.Tees = append(c.Tees, tee)
	}
	for i := range 1 + random.Intn(3) {
		c.Levels = append(c.Levels, randomLevel(random, fmt.Sprint("level", i), digits))
	}
	return c
}

// randomQuestion returns one that a course answers without an error.
func randomQuestion(random *rand.Rand, c rating.Course) question {
	return question{random.Intn(len(c.Tees)), random.Intn(len(c.Sites)), random.Intn(len(c.Levels)), random.Intn(len(c.Levels)), []int{1 + random.Intn(100)}}
}

// parts returns four numbers above 0 with the sum 2; the first two have a sum with too many digits, and so have the others.
func parts() []api.Rat {
	x, y := bigRat("1/"+most), bigRat("1/1"+api.Rat(strings.Repeat("0", 599)))
	return []api.Rat{rat(x), rat(y), rat(minus(whole(1), x)), rat(minus(whole(1), y))}
}
