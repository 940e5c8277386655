package handicap_test

import (
	"math"
	"slices"
	"strings"
	"testing"

	"niblick/api"
	"niblick/handicap"
)

// scoreErrors are changes of a score with their errors, in their order.
var scoreErrors = []struct {
	name   string
	change func(s *handicap.Score)
	want   api.Errno
}{
	{"a day below 0", func(s *handicap.Score) { s.Day = -1 }, api.ErrRange},
	{"the number 0", func(s *handicap.Score) { s.Number = 0 }, api.ErrRange},
	{"no strokes", func(s *handicap.Score) { s.Gross = 0 }, api.ErrRange},
	{"no rating", func(s *handicap.Score) { s.Rating = "" }, api.ErrForm},
	{"a long rating", func(s *handicap.Score) { s.Rating = "1" + most }, api.ErrLarge},
	{"a rating that is not in lowest terms", func(s *handicap.Score) { s.Rating = "144/2" }, api.ErrForm},
	{"a rating above 200", func(s *handicap.Score) { s.Rating = "401/2" }, api.ErrRange},
	{"a slope", func(s *handicap.Score) { s.Slope = 54 }, api.ErrRange},
	{"conditions", func(s *handicap.Score) { s.Conditions = 6 }, api.ErrRange},
}

// errorsOfScore are flaws of one score, in their order.
func errorsOfScore(of string, score func(q *question) *handicap.Score) []flaw {
	var l []flaw
	for _, c := range scoreErrors {
		l = append(l, flaw{of, c.name + " of " + of, func(q *question) { c.change(score(q)) }, c.want})
	}
	return l
}

// errorsOfScores are flaws of a list of scores, in their order: of the list, of its first score, its second one, and its third one.
func errorsOfScores(of string, list func(q *question) *[]handicap.Score) []flaw {
	at := func(i int) func(q *question) *handicap.Score {
		return func(q *question) *handicap.Score { return &(*list(q))[i] }
	}
	l := []flaw{{of, "257 scores " + of, func(q *question) { *list(q) = make([]handicap.Score, 257) }, api.ErrMany}}
	l = append(l, errorsOfScore(of, at(0))...)
	l = append(l, errorsOfScore(of, at(1))...)
	l = append(l, flaw{of, "a number twice " + of, func(q *question) { at(1)(q).Number = at(0)(q).Number }, api.ErrTwice})
	return append(l, errorsOfScore(of, at(2))...)
}

// errorsOfSide are flaws of handicaps or percentages, in their order.
func errorsOfSide(of string, wrong int, list func(q *question) *[]int) []flaw {
	return []flaw{
		{of, "nobody " + of, func(q *question) { *list(q) = nil }, api.ErrEmpty},
		{of, "201 players " + of, func(q *question) { *list(q) = slices.Repeat([]int{1000}, 201) }, api.ErrMany},
		{of, "one of the " + of, func(q *question) { *list(q) = []int{0, wrong, 0} }, api.ErrRange},
	}
}

// errorsOfNumber are flaws of a number between others, in their order.
func errorsOfNumber(of string, text func(q *question) *api.Rat, less, more api.Rat) []flaw {
	set := func(x api.Rat) func(q *question) { return func(q *question) { *text(q) = x } }
	return []flaw{
		{of, "no number " + of, set("1/0"), api.ErrForm},
		{of, "too long a number " + of, set("1" + most), api.ErrLarge},
		{of, "too small a number " + of, set(less), api.ErrRange},
		{of, "too great a number " + of, set(more), api.ErrRange},
	}
}

// errorsOfCards are flaws of holes and a card, in their order.
func errorsOfCards() []flaw {
	return []flaw{
		{"h", "no holes", func(q *question) { q.h = nil }, api.ErrEmpty},
		{"h", "37 holes", func(q *question) { q.h = make([]api.Hole, 37) }, api.ErrMany},
		{"h", "a par", func(q *question) { q.h = []api.Hole{{Par: 4, Index: 1}, {Par: 7, Index: 2}} }, api.ErrRange},
		{"h", "an index twice", func(q *question) { q.h = []api.Hole{{Par: 4, Index: 1}, {Par: 4, Index: 1}} }, api.ErrTwice},
		{"c", "no name", func(q *question) { q.c.Player = "1" }, api.ErrName},
		{"c", "an entry too few", func(q *question) { q.c.Entries = []api.Entry{{Strokes: 9}} }, api.ErrShape},
		{"c", "a mark", func(q *question) { q.c.Entries = []api.Entry{{Strokes: 9, Mark: "C"}, {}} }, api.ErrKind},
		{"c", "no strokes", func(q *question) { q.c.Entries = []api.Entry{{Strokes: 9}, {}} }, api.ErrRange},
		{"courseOfHoles", "a course handicap below -99", func(q *question) { q.courseOfHoles = -100 }, api.ErrRange},
	}
}

func errorsInOrder() []flaw {
	var l []flaw
	add := func(more ...flaw) { l = append(l, more...) }
	add(errorsOfScore("score", func(q *question) *handicap.Score { return &q.score })...)
	add(errorsOfScores("l", func(q *question) *[]handicap.Score { return &q.l })...)
	add(errorsOfScores("m", func(q *question) *[]handicap.Score { return &q.m })...)
	add(flaw{"both", "another score with a number", func(q *question) { q.m[1].Gross++ }, api.ErrConflict})
	add(flaw{"both", "257 scores of both", func(q *question) {
		for number := 7; number <= 256; number++ {
			q.m = append(q.m, score(number, 0, 90))
		}
		q.m = append(q.m, score(1000, 0, 90))
	}, api.ErrMany})
	add(errorsOfScore("fixed", func(q *question) *handicap.Score { return &q.fixed })...)
	add(flaw{"there", "a score that is not there", func(q *question) { q.fixed.Number = 5 }, api.ErrUnknown})
	add(flaw{"scores", "fewer scores than none", func(q *question) { q.scores = -1 }, api.ErrRange})
	add(flaw{"day", "a day below 0", func(q *question) { q.day = -1 }, api.ErrRange})
	add(flaw{"known", "a day without an index", func(q *question) { q.day = 29 }, api.ErrNone})
	add(flaw{"numbers", "257 numbers", func(q *question) { q.numbers = make([]api.Rat, 257) }, api.ErrMany})
	add(flaw{"numbers", "a long number", func(q *question) { q.numbers = []api.Rat{"1", "1" + most, "1/0"} }, api.ErrLarge})
	add(flaw{"numbers", "no number", func(q *question) { q.numbers = []api.Rat{"1/0", "1" + most} }, api.ErrForm})
	add(errorsOfNumber("index", func(q *question) *api.Rat { return &q.index }, "-201/10", "601/10")...)
	add(flaw{"slope", "a slope", func(q *question) { q.slope = 156 }, api.ErrRange})
	add(errorsOfNumber("rating", func(q *question) *api.Rat { return &q.rating }, "9/10", "2001/10")...)
	add(flaw{"par", "a par of a course", func(q *question) { q.par = 0 }, api.ErrRange})
	add(flaw{"course", "a course handicap", func(q *question) { q.course = 100 }, api.ErrRange})
	add(flaw{"percent", "a percentage", func(q *question) { q.percent = 101 }, api.ErrRange})
	add(errorsOfSide("side", -100, func(q *question) *[]int { return &q.side })...)
	add(errorsOfSide("percents", -1, func(q *question) *[]int { return &q.percents })...)
	add(flaw{"lengths", "a percentage more", func(q *question) { q.percents = []int{1, 2, 3, 4} }, api.ErrShape})
	add(errorsOfCards()...)
	return l
}

func TestP6_1ErrorsInOrder(t *testing.T) {
	expect(t, "a fresh question", fresh(), func(answer) api.Errno { return api.OK })
	inOrder(t, errorsInOrder()...)
}

func TestP6_1CheckScore(t *testing.T) {
	is(t, "the greatest day", handicap.MaxDay, 99999)
	zeros := api.Rat(strings.Repeat("0", 599))
	for _, c := range []struct {
		name   string
		change func(s *handicap.Score)
		want   api.Errno
	}{
		{"nothing", func(s *handicap.Score) {}, api.OK},
		{"the day 0", func(s *handicap.Score) { s.Day = 0 }, api.OK},
		{"the last day", func(s *handicap.Score) { s.Day = 99999 }, api.OK},
		{"a day after it", func(s *handicap.Score) { s.Day = 100000 }, api.ErrRange},
		{"the least day", func(s *handicap.Score) { s.Day = math.MinInt }, api.ErrRange},
		{"the number 1", func(s *handicap.Score) { s.Number = 1 }, api.OK},
		{"the greatest number", func(s *handicap.Score) { s.Number = 999999999 }, api.OK},
		{"a greater one", func(s *handicap.Score) { s.Number = 1000000000 }, api.ErrRange},
		{"a number below 0", func(s *handicap.Score) { s.Number = -1 }, api.ErrRange},
		{"one stroke", func(s *handicap.Score) { s.Gross = 1 }, api.OK},
		{"999 strokes", func(s *handicap.Score) { s.Gross = 999 }, api.OK},
		{"1000 strokes", func(s *handicap.Score) { s.Gross = 1000 }, api.ErrRange},
		{"strokes below 0", func(s *handicap.Score) { s.Gross = -90 }, api.ErrRange},
		{"the least rating", func(s *handicap.Score) { s.Rating = "1" }, api.OK},
		{"a rating below it", func(s *handicap.Score) { s.Rating = "99/100" }, api.ErrRange},
		{"a rating below 0", func(s *handicap.Score) { s.Rating = "-72" }, api.ErrRange},
		{"the greatest rating", func(s *handicap.Score) { s.Rating = "200" }, api.OK},
		{"a rating above it", func(s *handicap.Score) { s.Rating = "20001/100" }, api.ErrRange},
		{"a rating far above it", func(s *handicap.Score) { s.Rating = most }, api.ErrRange},
		{"a rating just above 1", func(s *handicap.Score) { s.Rating = "1" + zeros + "/" + most[1:] }, api.OK},
		{"a rating just below 1", func(s *handicap.Score) { s.Rating = most[1:] + "/1" + zeros }, api.ErrRange},
		{"a rating just below 200", func(s *handicap.Score) { s.Rating = "199" + most[3:] + "/1" + zeros[2:] }, api.OK},
		{"a rating just above 200", func(s *handicap.Score) { s.Rating = "200" + zeros[3:] + "1/1" + zeros[2:] }, api.ErrRange},
		{"the least slope", func(s *handicap.Score) { s.Slope = 55 }, api.OK},
		{"the greatest slope", func(s *handicap.Score) { s.Slope = 155 }, api.OK},
		{"a greater one", func(s *handicap.Score) { s.Slope = 156 }, api.ErrRange},
		{"the easiest day", func(s *handicap.Score) { s.Conditions = -5 }, api.OK},
		{"an easier day", func(s *handicap.Score) { s.Conditions = -6 }, api.ErrRange},
		{"the hardest day", func(s *handicap.Score) { s.Conditions = 5 }, api.OK},
	} {
		s := score(1, 10, 90)
		c.change(&s)
		is(t, c.name, handicap.CheckScore(s), c.want)
		is(t, c.name+" in a list", handicap.CheckScores([]handicap.Score{s}), c.want)
		_, e := handicap.Differential(s)
		is(t, "the differential with "+c.name, e, c.want)
	}
	for _, b := range badNumbers {
		s := score(1, 10, 90)
		s.Rating = b.text
		is(t, "the rating "+string(b.text), handicap.CheckScore(s), b.e)
	}
	is(t, "no score", handicap.CheckScore(handicap.Score{}), api.ErrRange)
}

// many returns scores with the numbers from 1 on.
func many(n int) []handicap.Score {
	var l []handicap.Score
	for i := range n {
		l = append(l, score(i+1, (i*7)%50, 80+i%30))
	}
	return l
}

func TestP6_1CheckScores(t *testing.T) {
	wrong := score(1, 10, 0)
	for _, c := range []struct {
		name string
		l    []handicap.Score
		want api.Errno
	}{
		{"no scores", nil, api.OK},
		{"all scores", sample(4), api.OK},
		{"256 scores", many(256), api.OK},
		{"257 scores", many(257), api.ErrMany},
		{"a number twice, not one behind the other", append(sample(4), score(1, 50, 99)), api.ErrTwice},
		{"the same score twice", append(sample(1), sample(1)...), api.ErrTwice},
		{"a number twice, of which one has an error", append(sample(4), wrong), api.ErrRange},
		{"a number twice before an error", append(sample(1), score(1, 50, 99), wrong), api.ErrTwice},
		{"one day with different numbers", []handicap.Score{score(2, 5, 90), score(1, 5, 90)}, api.OK},
		{"an error at the end", append(sample(4), handicap.Score{Day: 1, Number: 9, Gross: 1, Slope: 100}), api.ErrForm},
	} {
		is(t, c.name, handicap.CheckScores(c.l), c.want)
		_, e := handicap.History(c.l)
		is(t, "the history of "+c.name, e, c.want)
	}
}
