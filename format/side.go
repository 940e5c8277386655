package format

import (
	"slices"

	"niblick/api"
	"niblick/card"
)

// leastSide is the least number of players of a side.
const leastSide = 2

// side is a format of sides with at most so many players. Where they share a ball, it has the hundredths of their handicap strokes, in ascending order; where each one plays a ball, it has their net strokes of a hole.
type side struct {
	most       int
	hundredths func(players int) []int
	join       func(l []Net) Net
}

// The formats of sides.
const (
	foursome  = "foursome"
	scramble  = "scramble"
	fourball  = "fourball"
	aggregate = "aggregate"
)

func sides() map[string]side {
	return map[string]side{
		foursome:  {most: 2, hundredths: func(int) []int { return []int{50, 50} }},
		scramble:  {most: 4, hundredths: hundredthsOfScramble},
		fourball:  {most: 4, join: best},
		aggregate: {most: 2, join: total},
	}
}

func hundredthsOfScramble(players int) []int {
	switch players {
	case 2:
		return []int{35, 15}
	case 3:
		return []int{30, 20, 10}
	}
	return []int{25, 20, 15, 10}
}

func best(l []Net) Net {
	return slices.MinFunc(l, byMerit)
}

// total returns the sum of net strokes, or the worst of their marks.
func total(l []Net) Net {
	worst := slices.MaxFunc(l, byMerit)
	if !worst.counts() {
		return worst
	}
	return Net{Strokes: sumOf(l, Net.strokes)}
}

// check returns the error of a side with so many players.
func (s side) check(players int) api.Errno {
	return unless(leastSide <= players && players <= s.most, api.ErrShape)
}

// Foursome returns the handicap strokes of a foursome.
func Foursome(handicaps []int) (int, api.Errno) {
	return shared(sides()[foursome], handicaps)
}

// Scramble returns the handicap strokes of a scramble.
func Scramble(handicaps []int) (int, api.Errno) {
	return shared(sides()[scramble], handicaps)
}

// shared returns the handicap strokes of players who share a ball.
func shared(s side, handicaps []int) (int, api.Errno) {
	e := first(s.check(len(handicaps)), eachWithin(handicaps, -MaxHandicap, MaxHandicap))
	if e != api.OK {
		return 0, e
	}
	sum, hundredths := 0, s.hundredths(len(handicaps))
	for i, handicap := range slices.Sorted(slices.Values(handicaps)) {
		sum += handicap * hundredths[i]
	}
	rounded, _ := divided(sum+50, 100)
	return rounded, api.OK
}

// Fourball returns the net strokes of a fourball.
func Fourball(h []api.Hole, l []Player) ([]Net, api.Errno) {
	return joined(sides()[fourball], h, l...)
}

// Aggregate returns the sums of the net strokes of two players.
func Aggregate(h []api.Hole, a, b Player) ([]Net, api.Errno) {
	return joined(sides()[aggregate], h, a, b)
}

// joined returns the net strokes of players each of whom plays a ball.
func joined(s side, h []api.Hole, l ...Player) ([]Net, api.Errno) {
	e := first(card.CheckHoles(h), s.check(len(l)), checkPlayers(h, l...))
	if e != api.OK {
		return nil, e
	}
	rounds := eachOf(l, func(p Player) round { return roundOf(h, p) })
	nets := make([]Net, len(h))
	for i := range h {
		nets[i] = s.join(eachOf(rounds, func(r round) Net { return r.nets[i] }))
	}
	return nets, api.OK
}

// Team returns a team score.
func Team(l []int, count int) (int, api.Errno) {
	e := first(checkNumbers(l, api.MaxPlayers), within(count, 1, len(l)))
	if e != api.OK {
		return 0, e
	}
	return sumOf(slices.Sorted(slices.Values(l))[:count], itself), api.OK
}
