package format_test

import (
	"math/big"
	"slices"
	"strconv"

	"niblick/api"
	"niblick/format"
)

// Slow functions that follow the definitions of the chapter word by word, for arguments without errors.

// slowGiven gives strokes one by one, from the least stroke index on, or takes them away from the greatest one on.
func slowGiven(h []api.Hole, handicap int) []int {
	l := make([]int, len(h))
	at := func(index int) int {
		return slices.IndexFunc(h, func(hole api.Hole) bool { return hole.Index == index })
	}
	for i := range max(handicap, 0) {
		l[at(1+i%len(h))]++
	}
	for i := range max(-handicap, 0) {
		l[at(len(h)-i%len(h))]--
	}
	return l
}

func slowNets(h []api.Hole, p format.Player) []format.Net {
	var l []format.Net
	given := slowGiven(h, p.Handicap)
	for i, entry := range p.Card.Entries {
		switch entry.Mark {
		case "x", "-":
			l = append(l, format.Net{Mark: entry.Mark})
		default:
			l = append(l, format.Net{Strokes: entry.Strokes - given[i]})
		}
	}
	return l
}

// slowScores returns the gross and the net score, and whether there are such scores.
func slowScores(h []api.Hole, p format.Player) (gross, net int, ok bool) {
	for i, n := range slowNets(h, p) {
		if n.Mark != "" {
			return 0, 0, false
		}
		gross += p.Card.Entries[i].Strokes
		net += n.Strokes
	}
	return gross, net, true
}

func slowPoints(h []api.Hole, p format.Player) []int {
	l := make([]int, len(h))
	for i, n := range slowNets(h, p) {
		if points := 2 + h[i].Par - n.Strokes; n.Mark == "" && points > 0 {
			l[i] = points
		}
	}
	return l
}

func slowAgainst(h []api.Hole, p format.Player) []int {
	l := make([]int, len(h))
	for i, n := range slowNets(h, p) {
		switch {
		case n.Mark == "" && n.Strokes < h[i].Par:
			l[i] = 1
		case n.Mark == "" && n.Strokes == h[i].Par:
			l[i] = 0
		default:
			l[i] = -1
		}
	}
	return l
}

// slowStates counts the holes won anew for each state.
func slowStates(a, b []format.Net) []format.State {
	var l []format.State
	for n := 1; n <= len(a); n++ {
		if a[n-1].Mark == "-" || b[n-1].Mark == "-" {
			return l
		}
		first, second := 0, 0
		for i := range n {
			switch {
			case a[i].Mark == "" && b[i].Mark != "", a[i].Mark == "" && a[i].Strokes < b[i].Strokes:
				first++
			case b[i].Mark == "" && a[i].Mark != "", b[i].Mark == "" && b[i].Strokes < a[i].Strokes:
				second++
			}
		}
		s := format.State{Up: first - second, To: len(a) - n}
		s.Over = s.Up > s.To || -s.Up > s.To || s.To == 0
		l = append(l, s)
		if s.Over {
			return l
		}
	}
	return l
}

func slowWords(s format.State) string {
	words := "first "
	switch {
	case s.Up == 0:
		return "halved"
	case s.Up < 0:
		words = "second "
		s.Up = -s.Up
	}
	if s.To == 0 {
		return words + strconv.Itoa(s.Up) + " up"
	}
	return words + strconv.Itoa(s.Up) + " and " + strconv.Itoa(s.To)
}

// nearest rounds to the nearest integer, halves upwards.
func nearest(x *big.Rat) int {
	x = new(big.Rat).Add(x, big.NewRat(1, 2))
	return int(new(big.Int).Div(x.Num(), x.Denom()).Int64())
}

func slowFoursome(handicaps []int) int {
	return nearest(big.NewRat(int64(handicaps[0]+handicaps[1]), 2))
}

func slowScramble(handicaps []int) int {
	parts := map[int][]int64{2: {35, 15}, 3: {30, 20, 10}, 4: {25, 20, 15, 10}}[len(handicaps)]
	left, sum := slices.Clone(handicaps), new(big.Rat)
	for _, part := range parts {
		least := slices.Index(left, slices.Min(left))
		sum.Add(sum, new(big.Rat).Mul(big.NewRat(part, 100), big.NewRat(int64(left[least]), 1)))
		left = slices.Delete(left, least, least+1)
	}
	return nearest(sum)
}

func slowFourball(h []api.Hole, l []format.Player) []format.Net {
	var joined []format.Net
	for i := range h {
		var counted []int
		unplayed := 0
		for _, p := range l {
			switch n := slowNets(h, p)[i]; n.Mark {
			case "":
				counted = append(counted, n.Strokes)
			case "-":
				unplayed++
			}
		}
		switch {
		case len(counted) > 0:
			joined = append(joined, format.Net{Strokes: slices.Min(counted)})
		case unplayed == len(l):
			joined = append(joined, format.Net{Mark: "-"})
		default:
			joined = append(joined, format.Net{Mark: "x"})
		}
	}
	return joined
}

func slowAggregate(h []api.Hole, a, b format.Player) []format.Net {
	var joined []format.Net
	for i := range h {
		x, y := slowNets(h, a)[i], slowNets(h, b)[i]
		switch {
		case x.Mark == "" && y.Mark == "":
			joined = append(joined, format.Net{Strokes: x.Strokes + y.Strokes})
		case x.Mark == "-" || y.Mark == "-":
			joined = append(joined, format.Net{Mark: "-"})
		default:
			joined = append(joined, format.Net{Mark: "x"})
		}
	}
	return joined
}

// slowTeam takes the least score again and again.
func slowTeam(l []int, count int) int {
	left, sum := slices.Clone(l), 0
	for range count {
		least := slices.Index(left, slices.Min(left))
		sum += left[least]
		left = slices.Delete(left, least, least+1)
	}
	return sum
}

func slowCountback(a, b []int) int {
	sums := func(l []int) []int {
		sum := 0
		for _, n := range l {
			sum += n
		}
		all := []int{sum}
		for _, last := range []int{9, 6, 3, 1} {
			sum := 0
			for i := len(l) - last; i >= 0 && i < len(l); i++ {
				sum += l[i]
			}
			all = append(all, sum)
		}
		return all
	}
	return slices.Compare(sums(a), sums(b))
}

func slowRanks(l [][]int) []int {
	var ranks []int
	for _, numbers := range l {
		rank := 1
		for _, other := range l {
			if slowCountback(other, numbers) < 0 {
				rank++
			}
		}
		ranks = append(ranks, rank)
	}
	return ranks
}

// slowLeaders goes through all ranks, and through the field for each one.
func slowLeaders(f format.Field) (order, ranks []int) {
	var lists [][]int
	var players []int
	for player, p := range f.Players {
		if _, _, ok := slowScores(f.Holes, p); ok {
			var l []int
			for _, n := range slowNets(f.Holes, p) {
				l = append(l, n.Strokes)
			}
			lists, players = append(lists, l), append(players, player)
		}
	}
	all := slowRanks(lists)
	for rank := 1; rank <= len(players); rank++ {
		for i, player := range players {
			if all[i] == rank {
				order, ranks = append(order, player), append(ranks, rank)
			}
		}
	}
	return order, ranks
}

// slowPlayoff says of each player after each hole whether he is left.
func slowPlayoff(l [][]int) ([]int, int) {
	out := make([]bool, len(l))
	for hole := range l[0] {
		fewest, left := 100, []int(nil)
		for player := range l {
			if !out[player] {
				fewest = min(fewest, l[player][hole])
			}
		}
		for player := range l {
			out[player] = out[player] || l[player][hole] > fewest
			if !out[player] {
				left = append(left, player)
			}
		}
		if len(left) == 1 || hole == len(l[0])-1 {
			return left, hole + 1
		}
	}
	return nil, 0
}
