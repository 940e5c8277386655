package handicap_test

import (
	"fmt"
	"math/rand"
	"reflect"
	"slices"
	"strings"
	"testing"

	"niblick/api"
	"niblick/handicap"
)

// same compares values; nil and empty lists are equal.
func same(a, b reflect.Value) bool {
	switch a.Kind() {
	case reflect.Slice:
		if a.Len() != b.Len() {
			return false
		}
		for i := range a.Len() {
			if !same(a.Index(i), b.Index(i)) {
				return false
			}
		}
		return true
	case reflect.Struct:
		for i := range a.NumField() {
			if !same(a.Field(i), b.Field(i)) {
				return false
			}
		}
		return true
	case reflect.Interface:
		return same(a.Elem(), b.Elem())
	}
	return a.Equal(b)
}

// alike reports whether two values of one type are equal.
func alike[T any](a, b T) bool {
	return same(reflect.ValueOf(&a).Elem(), reflect.ValueOf(&b).Elem())
}

// is compares a result with what the document requires.
func is[T any](t *testing.T, what string, got, want T) {
	t.Helper()
	if !alike(got, want) {
		t.Errorf("%s: got %v, want %v", what, got, want)
	}
}

// gives checks a result without an error.
func gives[T any](t *testing.T, what string, got T, e api.Errno, want T) {
	t.Helper()
	if e != api.OK || !alike(got, want) {
		t.Errorf("%s: got %v and the error %d, want %v", what, got, e, want)
	}
}

// fails checks an error, and that the result beside it is the zero value.
func fails[T any](t *testing.T, what string, got T, e, want api.Errno) {
	t.Helper()
	if e != want || !alike(got, *new(T)) {
		t.Errorf("%s: got %v and the error %d, want the error %d alone", what, got, e, want)
	}
}

// ok returns a result that has no error.
func ok[T any](t *testing.T, got T, e api.Errno) T {
	t.Helper()
	if e != api.OK {
		t.Fatalf("the error %d", e)
	}
	return got
}

// most is the greatest integer that is a number.
var most = api.Rat(strings.Repeat("9", 600))

// badNumbers are texts with their errors.
var badNumbers = []struct {
	text api.Rat
	e    api.Errno
}{
	{"", api.ErrForm},
	{"x", api.ErrForm},
	{"-0", api.ErrForm},
	{"72.5", api.ErrForm},
	{"144/2", api.ErrForm},
	{"72 ", api.ErrForm},
	{"1" + api.Rat(strings.Repeat("0", 600)), api.ErrLarge},
	{"-1" + api.Rat(strings.Repeat("0", 600)), api.ErrLarge},
	{"1/" + most + "0", api.ErrLarge},
}

// score returns a score of the course of the chapter's examples.
func score(number, day, gross int) handicap.Score {
	return handicap.Score{Day: day, Number: number, Gross: gross, Rating: "72", Slope: 120}
}

// sample returns the first scores of the chapter's examples, up to the score 4.
func sample(n int) []handicap.Score {
	return []handicap.Score{score(1, 10, 90), score(2, 20, 85), score(3, 30, 95), score(4, 40, 73)}[:n]
}

// even returns a score whose differential is the gross strokes less 100, and tenths more.
func even(number, day, gross, tenths int) handicap.Score {
	rating := []api.Rat{"100", "999/10", "499/5", "997/10", "498/5", "199/2", "497/5", "993/10", "496/5", "991/10"}[tenths]
	return handicap.Score{Day: day, Number: number, Gross: gross, Rating: rating, Slope: 100}
}

// row returns scores on some days whose differentials are integers, numbered from 1 on.
func row(pairs ...[2]int) []handicap.Score {
	var l []handicap.Score
	for i, p := range pairs {
		l = append(l, even(i+1, p[0], 100+p[1], 0))
	}
	return l
}

// onDays returns scores day by day from a day on.
func onDays(from int, differentials ...int) []handicap.Score {
	var l []handicap.Score
	for i, d := range differentials {
		l = append(l, even(from+i, from+i, 100+d, 0))
	}
	return l
}

// two returns the holes of the chapter's example.
func two() []api.Hole {
	return []api.Hole{{Par: 4, Index: 1}, {Par: 3, Index: 2}}
}

// question is what the functions are asked.
type question struct {
	score         handicap.Score
	l, m          []handicap.Score
	fixed         handicap.Score // a score of l
	scores        int
	day           int
	numbers       []api.Rat
	index         api.Rat
	slope         int
	rating        api.Rat
	par           int
	course        int
	percent       int
	side          []int
	percents      []int
	h             []api.Hole
	c             api.Card
	courseOfHoles int
}

// answer is what a function returned; uses are the words of the arguments, and of what else can be wrong with them.
type answer struct {
	name, uses string
	value      any
	e          api.Errno
}

// answered makes an answer of what a function returned.
func answered[T any](name, uses string) func(x T, e api.Errno) answer {
	return func(x T, e api.Errno) answer { return answer{name, uses, x, e} }
}

// answers asks all functions.
func answers(q question) []answer {
	count, added, e := handicap.Rule(q.scores)
	return []answer{
		{"CheckScore", "score", 0, handicap.CheckScore(q.score)},
		{"CheckScores", "l", 0, handicap.CheckScores(q.l)},
		answered[[]handicap.Score]("Sorted", "l")(handicap.Sorted(q.l)),
		answered[[]handicap.Score]("Merge", "l m both")(handicap.Merge(q.l, q.m)),
		answered[[]handicap.Score]("Correct", "l fixed there")(handicap.Correct(q.l, q.fixed)),
		answered[api.Rat]("Differential", "score")(handicap.Differential(q.score)),
		{"Rule, the number", "scores", count, e},
		{"Rule, what is added", "scores", added, e},
		answered[[]handicap.Step]("History", "l")(handicap.History(q.l)),
		answered[api.Rat]("Index", "l day known")(handicap.Index(q.l, q.day)),
		answered[api.Rat]("Low", "l day known")(handicap.Low(q.l, q.day)),
		answered[[]int]("Counting", "l")(handicap.Counting(q.l)),
		answered[[]int]("Reductions", "l")(handicap.Reductions(q.l)),
		answered[[]int]("Changed", "l m")(handicap.Changed(q.l, q.m)),
		answered[int]("Conditions", "numbers")(handicap.Conditions(q.numbers)),
		answered[int]("Course", "index slope rating par")(handicap.Course(q.index, q.slope, q.rating, q.par)),
		answered[int]("Playing", "course percent")(handicap.Playing(q.course, q.percent)),
		answered[[]int]("Relative", "side")(handicap.Relative(q.side)),
		answered[int]("Team", "side percents lengths")(handicap.Team(q.side, q.percents)),
		answered[[]int]("Limits", "h courseOfHoles")(handicap.Limits(q.h, q.courseOfHoles)),
		answered[int]("Adjusted", "h c courseOfHoles")(handicap.Adjusted(q.h, q.c, q.courseOfHoles)),
	}
}

// fresh returns a question that all functions answer without an error.
func fresh() question {
	return question{
		score: handicap.Score{Day: 99999, Number: 999999999, Gross: 999, Rating: "200", Slope: 155, Conditions: 5},
		l:     sample(4), m: []handicap.Score{score(5, 50, 80), score(3, 30, 95), score(6, 60, 80)},
		fixed: score(3, 0, 1), scores: 999999999, day: 45,
		numbers: []api.Rat{"1", "2", "2", "3", "3", "4", "5", most, "-" + most},
		index:   "-20", slope: 55, rating: "1", par: 200, course: -99, percent: 100,
		side: []int{99, -99, 3}, percents: []int{100, 0, 35},
		h: two(), c: api.Card{Player: "ann", Entries: []api.Entry{{Strokes: 9}, {Mark: "-"}}}, courseOfHoles: 99,
	}
}

// copied returns a question that shares nothing with another one.
func copied(q question) question {
	q.l, q.m, q.numbers = slices.Clone(q.l), slices.Clone(q.m), slices.Clone(q.numbers)
	q.side, q.percents, q.h = slices.Clone(q.side), slices.Clone(q.percents), slices.Clone(q.h)
	q.c.Entries = slices.Clone(q.c.Entries)
	return q
}

// expect checks the errors of all answers, and that each result beside one is the zero value.
func expect(t *testing.T, what string, q question, want func(a answer) api.Errno) {
	t.Helper()
	for _, a := range answers(q) {
		if e := want(a); a.e != e {
			t.Errorf("%s: %s has the error %d, want %d", what, a.name, a.e, e)
		}
		if v := reflect.ValueOf(a.value); a.e != api.OK && !v.IsZero() && (v.Kind() != reflect.Slice || v.Len() > 0) {
			t.Errorf("%s: %s has the result %v beside an error", what, a.name, a.value)
		}
	}
}

// flaw spoils an argument of a question that is right.
type flaw struct {
	of    string
	name  string
	spoil func(q *question)
	want  api.Errno
}

// inOrder checks that each flaw has its error in all functions with this argument, and that of two flaws the one that is named first decides.
func inOrder(t *testing.T, flaws ...flaw) {
	t.Helper()
	try := func(what string, q question, spoiled ...flaw) {
		t.Helper()
		expect(t, what, q, func(a answer) api.Errno {
			for _, f := range spoiled {
				if slices.Contains(strings.Fields(a.uses), f.of) {
					return f.want
				}
			}
			return api.OK
		})
	}
	for i, f := range flaws {
		q := fresh()
		f.spoil(&q)
		try(f.name, q, f)
		for _, later := range flaws[i+1:] {
			q := fresh()
			later.spoil(&q)
			f.spoil(&q)
			try(f.name+" and "+later.name, q, f, later)
		}
	}
}

// randomRating returns a rating that is often not a multiple of 1/10, and sometimes long.
func randomRating(random *rand.Rand) api.Rat {
	switch random.Intn(10) {
	case 0:
		return longNumber(random, 1+random.Intn(199))
	case 1:
		return api.Rat(fmt.Sprint(1 + random.Intn(200)))
	case 2:
		return ratOf(700+random.Int63n(50), 7)
	}
	return ratOf(650+random.Int63n(100), 10)
}

// longNumber returns a number of 600 digits behind an integer from 1 on.
func longNumber(random *rand.Rand, from int) api.Rat {
	bottom := "1" + strings.Repeat("0", 590)
	digits := make([]byte, 590)
	for i := range digits {
		digits[i] = byte('0' + random.Intn(10))
	}
	digits[589] = '1'
	return api.Rat(fmt.Sprint(from) + string(digits) + "/" + bottom)
}

// player is how the scores of somebody are at random: from which strokes on, how they spread, and in how many days.
type player struct {
	gross, spread, days int
}

// randomScores returns scores with different numbers, in any order.
func randomScores(random *rand.Rand, n int, p player) []handicap.Score {
	var l []handicap.Score
	for _, number := range random.Perm(3 * n)[:n] {
		s := handicap.Score{Day: random.Intn(p.days), Number: 1 + number, Gross: p.gross + random.Intn(p.spread), Rating: "72", Slope: 100}
		switch random.Intn(8) {
		case 0, 1:
			s.Rating, s.Slope, s.Conditions = randomRating(random), 55+random.Intn(101), random.Intn(11)-5
		case 2:
			s.Gross = max(1, s.Gross-random.Intn(16))
		}
		l = append(l, s)
	}
	return l
}

// randomPlayer returns one of different players: steady ones, others with exceptional scores, over days and over years.
func randomPlayer(random *rand.Rand) player {
	gross := []int{60, 75, 90, 120, 200}[random.Intn(5)]
	return player{gross, []int{4, 15, 30, 60}[random.Intn(4)], []int{1, 10, 100, 1000, 4000}[random.Intn(5)]}
}

func randomHoles(random *rand.Rand, n int) []api.Hole {
	var h []api.Hole
	for _, i := range random.Perm(n) {
		h = append(h, api.Hole{Par: 3 + random.Intn(4), Index: i + 1})
	}
	return h
}

// randomCard returns a card of which one entry in so many has a mark without strokes.
func randomCard(random *rand.Rand, n, oneIn int) api.Card {
	c := api.Card{Player: "ann"}
	for range n {
		entry := api.Entry{Strokes: 1 + random.Intn(12)}
		switch {
		case random.Intn(oneIn) == 0:
			entry = api.Entry{Mark: []string{"x", "-"}[random.Intn(2)]}
		case random.Intn(4) == 0:
			entry.Mark = "c"
		case random.Intn(20) == 0:
			entry.Strokes = 1 + random.Intn(99)
		}
		c.Entries = append(c.Entries, entry)
	}
	return c
}
