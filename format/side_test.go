package format_test

import (
	"fmt"
	"math"
	"math/rand"
	"slices"
	"testing"

	"niblick/api"
	"niblick/format"
)

func TestP5_4Foursome(t *testing.T) {
	for _, c := range []struct {
		l    []int
		want int
	}{
		{[]int{7, 8}, 8}, {[]int{-3, 0}, -1}, {[]int{8, 7}, 8}, {[]int{0, -1}, 0}, {[]int{0, 1}, 1}, {[]int{0, 0}, 0},
		{[]int{-2, 0}, -1}, {[]int{99, 99}, 99}, {[]int{-99, -99}, -99}, {[]int{-99, -98}, -98}, {[]int{99, -99}, 0}, {[]int{12, 4}, 8},
	} {
		n, e := format.Foursome(c.l)
		gives(t, fmt.Sprint("a foursome of ", c.l), n, e, c.want)
	}
	for _, c := range []struct {
		l    []int
		want api.Errno
	}{
		{nil, api.ErrShape}, {[]int{1}, api.ErrShape}, {[]int{1, 2, 3}, api.ErrShape}, {[]int{100, 1, 1}, api.ErrShape},
		{[]int{100, 0}, api.ErrRange}, {[]int{0, 100}, api.ErrRange}, {[]int{-100, 0}, api.ErrRange}, {[]int{0, math.MinInt}, api.ErrRange}, {[]int{math.MaxInt, 0}, api.ErrRange},
	} {
		_, e := format.Foursome(c.l)
		is(t, fmt.Sprint("the error of a foursome of ", c.l), e, c.want)
	}
}

func TestP5_4Scramble(t *testing.T) {
	for _, c := range []struct {
		l    []int
		want int
	}{
		{[]int{20, 10}, 7}, {[]int{10, 20}, 7}, {[]int{10, 20, 30}, 10}, {[]int{30, 10, 20}, 10}, {[]int{4, 3, 2, 1}, 2}, {[]int{0, 0}, 0},
		{[]int{99, 99}, 50}, {[]int{-99, -99}, -49}, {[]int{-1, -1}, 0}, {[]int{-1, 99}, 15}, {[]int{1, 1}, 1}, {[]int{-2, 1}, -1},
		{[]int{99, 99, 99}, 59}, {[]int{-99, 99, 99}, 0}, {[]int{0, 0, 5}, 1}, {[]int{0, 0, 4}, 0}, {[]int{0, 0, -5}, -1}, {[]int{0, 0, -2}, -1}, {[]int{0, 0, -1}, 0},
		{[]int{99, 99, 99, 99}, 69}, {[]int{-99, -99, -99, -99}, -69}, {[]int{2, 0, 0, 0}, 0}, {[]int{5, 0, 0, 0}, 1}, {[]int{0, 0, 0, -2}, 0}, {[]int{0, 0, 0, -3}, -1},
	} {
		n, e := format.Scramble(c.l)
		gives(t, fmt.Sprint("a scramble of ", c.l), n, e, c.want)
	}
	for _, c := range []struct {
		l    []int
		want api.Errno
	}{
		{nil, api.ErrShape}, {[]int{1}, api.ErrShape}, {[]int{1, 2, 3, 4, 5}, api.ErrShape}, {[]int{100, 0, 0, 0, 0}, api.ErrShape},
		{[]int{100, 0}, api.ErrRange}, {[]int{0, 0, 100}, api.ErrRange}, {[]int{0, 0, 0, -100}, api.ErrRange}, {[]int{math.MinInt, 0}, api.ErrRange}, {[]int{0, math.MaxInt}, api.ErrRange},
	} {
		_, e := format.Scramble(c.l)
		is(t, fmt.Sprint("the error of a scramble of ", c.l), e, c.want)
	}
}

func TestP5_4HandicapsByDefinition(t *testing.T) {
	random := rand.New(rand.NewSource(6))
	for range 20000 {
		var l []int
		for range 2 + random.Intn(3) {
			l = append(l, randomHandicap(random))
		}
		n, e := format.Scramble(l)
		gives(t, fmt.Sprint("a scramble of ", l), n, e, slowScramble(l))
		n, e = format.Foursome(l[:2])
		gives(t, fmt.Sprint("a foursome of ", l[:2]), n, e, slowFoursome(l[:2]))
	}
}

func TestP5_4Examples(t *testing.T) {
	l, e := format.Fourball(four(), []format.Player{adam(), eve()})
	gives(t, "the fourball of A and B", l, e, nets("3 3 5 4"))
	l, e = format.Aggregate(four(), adam(), eve())
	gives(t, "the aggregate of A and B", l, e, nets("7 6 11 x"))
	n, e := format.Team([]int{5, 3, 4, 9}, 2)
	gives(t, "a team score", n, e, 7)
}

func TestP5_4Fourball(t *testing.T) {
	for _, c := range []struct {
		name  string
		cards []string
		want  string
	}{
		{"two players", []string{"4 5 x -", "5 4 4 9"}, "4 4 4 9"},
		{"three players", []string{"4 6 x -", "5 4c 4 9", "6 5 3 8"}, "4 4 3 8"},
		{"four players", []string{"4 6 x -", "5 4 4 9", "6 5 4 8", "7 3 4 1"}, "4 3 4 1"},
		{"marks of two players", []string{"x x - -", "x - x -"}, "x x x -"},
		{"marks of four players", []string{"- x - -", "- x - 99", "x x - x", "- x - x"}, "x x - 99"},
	} {
		var l []format.Player
		for i, words := range c.cards {
			l = append(l, player(string(rune('A'+i)), 0, words))
		}
		joined, e := format.Fourball(four(), l)
		gives(t, c.name, joined, e, nets(c.want))
		slices.Reverse(l)
		joined, e = format.Fourball(four(), l)
		gives(t, c.name+" in another order", joined, e, nets(c.want))
	}
	l, e := format.Fourball(four(), []format.Player{player("A", 99, "1 1 x -"), player("B", -99, "99 x 99 99")})
	gives(t, "far apart", l, e, nets("-24 -23 123 124"))
	for _, c := range []struct {
		name string
		l    []format.Player
		want api.Errno
	}{
		{"nobody", nil, api.ErrShape},
		{"one player", []format.Player{adam()}, api.ErrShape},
		{"one player with an error", []format.Player{{}}, api.ErrShape},
		{"five players", randomPlayers(rand.New(rand.NewSource(7)), 4, 5, 4), api.ErrShape},
		{"four players", randomPlayers(rand.New(rand.NewSource(7)), 4, 4, 4), api.OK},
		{"the same player twice", []format.Player{adam(), adam()}, api.ErrTwice},
		{"the same name last", []format.Player{adam(), eve(), player("C", 0, "4 4 4 4"), player("A", 0, "4 4 4 4")}, api.ErrTwice},
		{"an error before the same name", []format.Player{adam(), player("B", 0, "4"), adam()}, api.ErrShape},
		{"an error behind the same name", []format.Player{adam(), adam(), player("", 0, "4")}, api.ErrTwice},
		{"an error with the same name", []format.Player{adam(), player("A", 0, "4 4 4 4z")}, api.ErrKind},
	} {
		_, e := format.Fourball(four(), c.l)
		is(t, c.name, e, c.want)
	}
	_, e = format.Fourball(nil, nil)
	is(t, "no holes and nobody", e, api.ErrEmpty)
}

func TestP5_4Aggregate(t *testing.T) {
	for _, c := range []struct{ name, a, b, want string }{
		{"counts", "4 5c 1 99", "5 4 1c 99", "9 9 2 198"},
		{"one mark", "4 x - 5", "x 4 4 -", "x x - -"},
		{"two marks", "x x - -", "x - x -", "x - - -"},
	} {
		l, e := format.Aggregate(four(), player("A", 0, c.a), player("B", 0, c.b))
		gives(t, c.name, l, e, nets(c.want))
	}
	l, e := format.Aggregate(inLine(1), player("A", -99, "99"), player("B", -99, "99"))
	gives(t, "the most", l, e, nets("396"))
	_, e = format.Aggregate(four(), adam(), player("A", 0, "4 4 4 4"))
	is(t, "the same name", e, api.ErrTwice)
}

func TestP5_4SidesByDefinition(t *testing.T) {
	random := rand.New(rand.NewSource(8))
	for range 2000 {
		h := randomHoles(random, 1+random.Intn(20))
		players := randomPlayers(random, len(h), 2+random.Intn(3), 2)
		l, e := format.Fourball(h, players)
		gives(t, "Fourball", l, e, slowFourball(h, players))
		l, e = format.Aggregate(h, players[0], players[1])
		gives(t, "Aggregate", l, e, slowAggregate(h, players[0], players[1]))
	}
}

func TestP5_4Team(t *testing.T) {
	most := slices.Repeat([]int{9999}, 200)
	for _, c := range []struct {
		name  string
		l     []int
		count int
		want  int
	}{
		{"one of four", []int{5, 3, 4, 9}, 1, 3},
		{"three of four", []int{5, 3, 4, 9}, 3, 12},
		{"all", []int{5, 3, 4, 9}, 4, 21},
		{"one alone", []int{-9999}, 1, -9999},
		{"equal ones", []int{3, 3, 3}, 2, 6},
		{"below 0", []int{0, -1, 1, -2}, 3, -3},
		{"the most", most, 200, 1999800},
	} {
		n, e := format.Team(c.l, c.count)
		gives(t, c.name, n, e, c.want)
	}
	for _, c := range []struct {
		name  string
		l     []int
		count int
		want  api.Errno
	}{
		{"no scores", nil, 0, api.ErrEmpty},
		{"201 scores", make([]int, 201), 0, api.ErrMany},
		{"too great a score", []int{1, 10000}, 0, api.ErrRange},
		{"too small a score", []int{-10000, 1}, 1, api.ErrRange},
		{"none that counts", []int{1, 2}, 0, api.ErrRange},
		{"fewer than none", []int{1, 2}, math.MinInt, api.ErrRange},
		{"more than all", []int{1, 2}, 3, api.ErrRange},
		{"the greatest integer", []int{1, 2}, math.MaxInt, api.ErrRange},
	} {
		_, e := format.Team(c.l, c.count)
		is(t, c.name, e, c.want)
	}
}

func TestP5_4TeamByDefinition(t *testing.T) {
	random := rand.New(rand.NewSource(9))
	for range 1000 {
		var l []int
		for range 1 + random.Intn(200) {
			l = append(l, random.Intn(1+random.Intn(19999))-9999)
		}
		count := 1 + random.Intn(len(l))
		n, e := format.Team(l, count)
		gives(t, "Team", n, e, slowTeam(l, count))
	}
}
