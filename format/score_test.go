package format_test

import (
	"math"
	"math/rand"
	"strconv"
	"testing"

	"niblick/api"
	"niblick/format"
)

func TestP5_1Given(t *testing.T) {
	for _, c := range []struct {
		handicap int
		want     []int
	}{
		{6, []int{2, 1, 2, 1}},
		{-1, []int{0, -1, 0, 0}},
		{0, []int{0, 0, 0, 0}},
		{1, []int{0, 0, 1, 0}},
		{2, []int{1, 0, 1, 0}},
		{3, []int{1, 0, 1, 1}},
		{4, []int{1, 1, 1, 1}},
		{-2, []int{0, -1, 0, -1}},
		{-3, []int{-1, -1, 0, -1}},
		{-4, []int{-1, -1, -1, -1}},
		{-5, []int{-1, -2, -1, -1}},
		{99, []int{25, 24, 25, 25}},
		{-99, []int{-25, -25, -24, -25}},
	} {
		l, e := format.Given(four(), c.handicap)
		gives(t, "strokes given for "+strconv.Itoa(c.handicap), l, e, c.want)
	}
	for _, handicap := range []int{100, -100, math.MaxInt, math.MinInt} {
		_, e := format.Given(four(), handicap)
		is(t, "the error of "+strconv.Itoa(handicap), e, api.ErrRange)
	}
	l, e := format.Given(inLine(1), -99)
	gives(t, "one hole", l, e, []int{-99})
	_, e = format.Given(inLine(37), 0)
	is(t, "37 holes", e, api.ErrMany)
	l, e = format.Given(inLine(36), 99)
	is(t, "36 holes", e, api.OK)
	is(t, "the 27th hole, the last one with three strokes", [2]int{l[26], l[27]}, [2]int{3, 2})
}

func TestP5_1GivenByDefinition(t *testing.T) {
	random := rand.New(rand.NewSource(2))
	for n := 1; n <= 36; n++ {
		h := randomHoles(random, n)
		for handicap := -99; handicap <= 99; handicap++ {
			l, e := format.Given(h, handicap)
			gives(t, "Given", l, e, slowGiven(h, handicap))
		}
	}
}

func TestP5_1Examples(t *testing.T) {
	l, e := format.Nets(four(), adam())
	gives(t, "the net strokes of A", l, e, nets("3 3 5 x"))
	_, e = format.Score(four(), adam())
	is(t, "A has no score", e, api.ErrNone)
	_, e = format.Gross(four(), adam())
	is(t, "A has no gross score", e, api.ErrNone)
	gross, e := format.Gross(four(), eve())
	gives(t, "the gross score of B", gross, e, 17)
	score, e := format.Score(four(), eve())
	gives(t, "the net score of B", score, e, 17)
}

func TestP5_1Scores(t *testing.T) {
	for _, c := range []struct {
		name       string
		p          format.Player
		nets       string
		gross, net int
		want       api.Errno
	}{
		{"a plain card", player("A", 5, "5 4 7 6"), "4 3 5 5", 22, 17, api.OK},
		{"strokes taken away", player("A", -5, "5 4 7 6"), "6 6 8 7", 22, 27, api.OK},
		{"a concession", player("A", 1, "5 4c 7c 6"), "5 4 6 6", 22, 21, api.OK},
		{"strokes below 0", player("A", 99, "1 1 1 1"), "-24 -23 -24 -24", 4, -95, api.OK},
		{"the most strokes", player("A", -99, "99 99c 99 99"), "124 124 123 124", 396, 495, api.OK},
		{"no first hole", player("A", 5, "x 4 7 6"), "x 3 5 5", 0, 0, api.ErrNone},
		{"no last hole", player("A", 5, "5 4 7 -"), "4 3 5 -", 0, 0, api.ErrNone},
		{"no hole", player("A", 99, "x - - x"), "x - - x", 0, 0, api.ErrNone},
	} {
		l, e := format.Nets(four(), c.p)
		gives(t, "net strokes of "+c.name, l, e, nets(c.nets))
		gross, e := format.Gross(four(), c.p)
		is(t, "the gross score of "+c.name, gross, c.gross)
		is(t, "the error of it", e, c.want)
		score, e := format.Score(four(), c.p)
		is(t, "the net score of "+c.name, score, c.net)
		is(t, "the error of it", e, c.want)
	}
	l, e := format.Nets(inLine(1), player("A", -99, "99"))
	gives(t, "the most net strokes", l, e, nets("198"))
	l, e = format.Nets(inLine(1), player("A", 99, "1"))
	gives(t, "the fewest net strokes", l, e, nets("-98"))
}

func TestP5_1ByDefinition(t *testing.T) {
	random := rand.New(rand.NewSource(3))
	whole := 0
	for range 3000 {
		h := randomHoles(random, 1+random.Intn(36))
		p := randomPlayers(random, len(h), 1, 30)[0]
		l, e := format.Nets(h, p)
		gives(t, "Nets", l, e, slowNets(h, p))
		gross, net, ok := slowScores(h, p)
		want := api.ErrNone
		if ok {
			want = api.OK
			whole++
		}
		got, e := format.Gross(h, p)
		is(t, "Gross", got, gross)
		is(t, "its error", e, want)
		got, e = format.Score(h, p)
		is(t, "Score", got, net)
		is(t, "its error", e, want)
	}
	is(t, "often enough a score", whole > 1000 && whole < 2500, true)
}

func TestP5_2Points(t *testing.T) {
	for _, c := range []struct {
		name            string
		p               format.Player
		points, against []int
	}{
		{"the player A", adam(), []int{3, 2, 2, 0}, []int{1, 0, 0, -1}},
		{"the player B", eve(), []int{2, 2, 1, 2}, []int{0, 0, -1, 0}},
		{"much over par", player("A", 0, "5 5 8 99"), []int{1, 0, 0, 0}, []int{-1, -1, -1, -1}},
		{"under par", player("A", 0, "3 1 1 2"), []int{3, 4, 6, 4}, []int{1, 1, 1, 1}},
		{"far below 0", player("A", 99, "1 1 1 1"), []int{30, 28, 31, 30}, []int{1, 1, 1, 1}},
		{"concessions", player("A", 4, "5c 4c 7c 4c"), []int{2, 2, 1, 3}, []int{0, 0, -1, 1}},
		{"marks", player("A", 99, "x - - x"), []int{0, 0, 0, 0}, []int{-1, -1, -1, -1}},
	} {
		l, e := format.Points(four(), c.p)
		gives(t, "the points of "+c.name, l, e, c.points)
		l, e = format.Against(four(), c.p)
		gives(t, c.name+" against par", l, e, c.against)
	}
}

func TestP5_2ByDefinition(t *testing.T) {
	random := rand.New(rand.NewSource(4))
	for range 3000 {
		h := randomHoles(random, 1+random.Intn(36))
		p := randomPlayers(random, len(h), 1, 6)[0]
		l, e := format.Points(h, p)
		gives(t, "Points", l, e, slowPoints(h, p))
		l, e = format.Against(h, p)
		gives(t, "Against", l, e, slowAgainst(h, p))
	}
}
