package format_test

import (
	"fmt"
	"math"
	"math/rand"
	"slices"
	"testing"

	"niblick/api"
	"niblick/format"
)

// numbers returns the strokes of net strokes.
func numbers(words string) []int {
	var l []int
	for _, n := range nets(words) {
		l = append(l, n.Strokes)
	}
	return l
}

func TestP5_5Examples(t *testing.T) {
	n, e := format.Countback([]int{3, 4, 5}, []int{4, 4, 4})
	gives(t, "3, 4, 5 and 4, 4, 4", n, e, 1)
	ranks, e := format.Ranks([][]int{{3, 4, 5}, {4, 4, 4}, {3, 3, 5}, {4, 4, 4}})
	gives(t, "four ranks", ranks, e, []int{4, 2, 1, 2})
	left, holes, e := format.Playoff([][]int{{4, 4}, {4, 5}, {5, 3}})
	gives(t, "a play-off", left, e, []int{0})
	is(t, "its holes", holes, 2)
}

func TestP5_5Countback(t *testing.T) {
	for _, c := range []struct {
		name, a, b string
		want       int
	}{
		{"one number", "3", "4", -1},
		{"one number less", "-9999", "9999", -1},
		{"one number twice", "4", "4", 0},
		{"the sum of two", "9 1", "2 9", -1},
		{"the last of two", "3 5", "4 4", 1},
		{"the sum of three, not the last one", "1 1 9", "4 4 4", -1},
		{"the last three", "5 1 4 4", "3 4 4 3", -1},
		{"the last three, not the last one", "5 1 4 6", "3 4 4 5", -1},
		{"none of two that change places", "3 5 4", "5 3 4", 0},
		{"the last six", "5 2 2 2 4 4 4", "4 3 2 2 4 4 4", -1},
		{"the last six, not the last three", "5 1 1 1 6 6 6", "4 5 5 5 2 2 3", -1},
		{"the last nine", "5 4 4 4 4 4 4 4 4 4", "4 5 4 4 4 4 4 4 4 4", -1},
		{"the last nine, not the last six", "5 1 1 1 4 4 4 4 4 6", "4 5 5 5 2 2 2 2 2 5", -1},
		{"holes in front of the last nine", "5 3 4 4 4 4 4 4 4 4 4", "3 5 4 4 4 4 4 4 4 4 4", 0},
		{"the last six of nine", "5 4 4 4 4 4 4 4 4", "4 4 4 5 4 4 4 4 4", -1},
		{"the last three of nine", "4 4 4 5 4 4 4 4 4", "4 4 4 4 4 4 5 4 4", -1},
		{"the last one of nine", "4 4 4 4 4 4 5 4 4", "4 4 4 4 4 4 4 4 5", -1},
		{"two of the last three", "4 4 4 4 4 4 5 4 4", "4 4 4 4 4 4 4 5 4", 0},
		{"the last three of six", "5 4 4 4 4 4", "4 4 4 5 4 4", -1},
		{"two of the first three", "5 4 4 4 4 4", "4 5 4 4 4 4", 0},
	} {
		n, e := format.Countback(numbers(c.a), numbers(c.b))
		gives(t, c.name, n, e, c.want)
		n, e = format.Countback(numbers(c.b), numbers(c.a))
		gives(t, c.name+", the other way round", n, e, -c.want)
	}
	for _, c := range []struct {
		name string
		a, b []int
		want api.Errno
	}{
		{"36 numbers", make([]int, 36), make([]int, 36), api.OK},
		{"37 numbers", make([]int, 37), make([]int, 37), api.ErrMany},
		{"37 numbers in the second list", make([]int, 36), make([]int, 37), api.ErrMany},
		{"no numbers", nil, nil, api.ErrEmpty},
		{"no second list", []int{1}, nil, api.ErrEmpty},
		{"too great a number", []int{10000}, []int{1}, api.ErrRange},
		{"too small a number", []int{1}, []int{-10000}, api.ErrRange},
		{"the least integer", []int{1, 2}, []int{1, math.MinInt}, api.ErrRange},
		{"a list that is longer", []int{1, 2}, []int{1}, api.ErrShape},
		{"a list that is shorter", []int{1}, []int{1, 2}, api.ErrShape},
	} {
		_, e := format.Countback(c.a, c.b)
		is(t, c.name, e, c.want)
	}
}

func TestP5_5CountbackByDefinition(t *testing.T) {
	random := rand.New(rand.NewSource(10))
	found := map[int]int{}
	for range 20000 {
		l := randomLists(random, 2, 1+random.Intn(36))
		n, e := format.Countback(l[0], l[1])
		gives(t, fmt.Sprint("of ", l), n, e, slowCountback(l[0], l[1]))
		found[n]++
	}
	is(t, "all results", min(found[-1], found[0], found[1]) > 1000, true)
}

func TestP5_5Ranks(t *testing.T) {
	for _, c := range []struct {
		l    [][]int
		want []int
	}{
		{[][]int{{4}}, []int{1}},
		{[][]int{{4}, {4}, {4}}, []int{1, 1, 1}},
		{[][]int{{4}, {3}, {4}, {5}, {5}}, []int{2, 1, 2, 4, 4}},
		{[][]int{{9, -9}, {-9, 9}, {0, 0}}, []int{1, 3, 2}},
	} {
		l, e := format.Ranks(c.l)
		gives(t, fmt.Sprint("the ranks of ", c.l), l, e, c.want)
	}
	for _, c := range []struct {
		name string
		l    [][]int
		want api.Errno
	}{
		{"nothing", nil, api.ErrEmpty},
		{"an empty list", [][]int{{}}, api.ErrEmpty},
		{"200 lists", slices.Repeat([][]int{{9999, -9999}}, 200), api.OK},
		{"201 lists", slices.Repeat([][]int{{1}}, 201), api.ErrMany},
		{"36 numbers", [][]int{make([]int, 36)}, api.OK},
		{"37 numbers", [][]int{{1}, make([]int, 37)}, api.ErrMany},
		{"a number", [][]int{{1}, {1, 10000}}, api.ErrRange},
		{"another length", [][]int{{1, 2}, {1}, {}}, api.ErrShape},
		{"a longer one", [][]int{{1}, {1, 2}}, api.ErrShape},
	} {
		_, e := format.Ranks(c.l)
		is(t, c.name, e, c.want)
	}
}

func TestP5_5RanksByDefinition(t *testing.T) {
	random := rand.New(rand.NewSource(11))
	for range 300 {
		l := randomLists(random, 1+random.Intn(40), 1+random.Intn(36))
		ranks, e := format.Ranks(l)
		gives(t, "Ranks", ranks, e, slowRanks(l))
	}
	l := randomLists(random, 200, 36)
	ranks, e := format.Ranks(l)
	gives(t, "the ranks of 200 lists", ranks, e, slowRanks(l))
}

func TestP5_5Leaders(t *testing.T) {
	for _, c := range []struct {
		name         string
		players      []format.Player
		order, ranks []int
	}{
		{"nobody", nil, nil, nil},
		{"nobody with a score", []format.Player{adam(), player("C", 0, "4 4 4 -")}, nil, nil},
		{"A and B", []format.Player{adam(), eve()}, []int{1}, []int{1}},
		{"net scores", []format.Player{player("A", 0, "4 4 4 4"), player("B", 9, "6 6 6 6"), player("C", -1, "3 3 4 4")}, []int{1, 2, 0}, []int{1, 2, 3}},
		{"a tie", []format.Player{player("A", 0, "5 5 5 5"), player("B", 0, "4 4 4 4"), player("C", 0, "x 1 1 1"), player("D", 0, "4c 4c 4c 4c"), player("E", 4, "5 5 5 5")}, []int{1, 3, 4, 0}, []int{1, 1, 1, 4}},
		{"the last hole", []format.Player{player("A", 0, "4 4 3 5"), player("B", 0, "4 4 5 3")}, []int{1, 0}, []int{1, 2}},
		{"net strokes of the last hole", []format.Player{player("A", 3, "4 4 4 4"), player("B", 3, "4 4 5 3"), player("C", 0, "3 4 3 3")}, []int{1, 0, 2}, []int{1, 2, 2}},
	} {
		order, ranks, e := format.Leaders(format.Field{Holes: four(), Players: c.players})
		gives(t, c.name, order, e, c.order)
		is(t, "the ranks of "+c.name, ranks, c.ranks)
	}
}

func TestP5_5LeadersByDefinition(t *testing.T) {
	random := rand.New(rand.NewSource(12))
	for range 500 {
		h := randomHoles(random, 1+random.Intn(5))
		f := format.Field{Holes: h, Players: randomPlayers(random, len(h), random.Intn(40), 20)}
		for i := range f.Players {
			f.Players[i].Handicap = random.Intn(3)
			for j := range h {
				if entry := &f.Players[i].Card.Entries[j]; entry.Strokes > 0 {
					entry.Strokes = 4 + random.Intn(2)
				}
			}
		}
		order, ranks, e := format.Leaders(f)
		wantOrder, wantRanks := slowLeaders(f)
		gives(t, "the order", order, e, wantOrder)
		is(t, "the ranks", ranks, wantRanks)
	}
	f := format.Field{Holes: inLine(36), Players: randomPlayers(random, 36, 200, 500)}
	order, ranks, e := format.Leaders(f)
	wantOrder, wantRanks := slowLeaders(f)
	gives(t, "the order of 200 players", order, e, wantOrder)
	is(t, "their ranks", ranks, wantRanks)
}

func TestP5_5Playoff(t *testing.T) {
	for _, c := range []struct {
		name  string
		l     []string
		left  []int
		holes int
	}{
		{"one hole", []string{"4", "3"}, []int{1}, 1},
		{"one hole, halved", []string{"99", "99"}, []int{0, 1}, 1},
		{"the first hole", []string{"4 4 4", "3 9 9"}, []int{1}, 1},
		{"the second hole", []string{"4 5 1", "4 4 9"}, []int{1}, 2},
		{"the last hole", []string{"4 4 3", "4 4 4"}, []int{0}, 3},
		{"no hole", []string{"4 4 4", "4 4 4", "4 4 4"}, []int{0, 1, 2}, 3},
		{"two of three", []string{"4 4", "5 1", "4 4"}, []int{0, 2}, 2},
		{"who is out does not play on", []string{"4 4 4", "5 1 1", "4 5 1"}, []int{0}, 2},
		{"one of four after another", []string{"4 4 4 4", "4 4 4 3", "4 4 5 1", "4 5 1 1"}, []int{1}, 4},
	} {
		var l [][]int
		for _, words := range c.l {
			l = append(l, numbers(words))
		}
		left, holes, e := format.Playoff(l)
		gives(t, c.name, left, e, c.left)
		is(t, "the holes of "+c.name, holes, c.holes)
	}
	ones := slices.Repeat([]int{1}, 36)
	for _, c := range []struct {
		name string
		l    [][]int
		want api.Errno
	}{
		{"nobody", nil, api.ErrShape},
		{"one player", [][]int{{4}}, api.ErrShape},
		{"200 players", slices.Repeat([][]int{ones}, 200), api.OK},
		{"201 players", slices.Repeat([][]int{ones}, 201), api.ErrMany},
		{"36 holes", [][]int{ones, ones}, api.OK},
		{"37 holes", [][]int{append([]int{1}, ones...), ones}, api.ErrMany},
		{"no holes", [][]int{{}, {}}, api.ErrEmpty},
		{"no holes of the second player", [][]int{{4}, nil}, api.ErrEmpty},
		{"no strokes", [][]int{{4, 0}, {4, 4}}, api.ErrRange},
		{"99 strokes", [][]int{{99}, {99}}, api.OK},
		{"100 strokes", [][]int{{4}, {4, 100}}, api.ErrRange},
		{"fewer holes", [][]int{{4, 4}, {4}}, api.ErrShape},
		{"more holes", [][]int{{4, 4}, {4, 4, 4}}, api.ErrShape},
	} {
		_, _, e := format.Playoff(c.l)
		is(t, c.name, e, c.want)
	}
}

func TestP5_5PlayoffByDefinition(t *testing.T) {
	random := rand.New(rand.NewSource(13))
	for range 5000 {
		var l [][]int
		players, holes := 2+random.Intn(20), 1+random.Intn(8)
		for range players {
			var strokes []int
			for range holes {
				strokes = append(strokes, 4+random.Intn(5)/4)
			}
			l = append(l, strokes)
		}
		left, played, e := format.Playoff(l)
		wantLeft, wantPlayed := slowPlayoff(l)
		gives(t, fmt.Sprint("the play-off ", l), left, e, wantLeft)
		is(t, fmt.Sprint("the holes of the play-off ", l), played, wantPlayed)
	}
}
