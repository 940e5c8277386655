package rating

import (
	"strconv"

	"niblick/api"
	"niblick/card"
)

// readHole returns a course, or its error, or that of a tee, hole or level that is not there.
func readHole(c Course, tee, hole, level int) (layout, api.Errno) {
	l, e := readCourse(c)
	return l, first(e, known(l.tees, tee), known(l.sites, hole), known(l.levels, level))
}

// Played returns the length of a hole with rise, wind and lay-ups.
func Played(c Course, tee, hole int) (api.Rat, api.Errno) {
	// Each course has a level 0.
	l, e := readHole(c, tee, hole, 0)
	if e != api.OK {
		return "", e
	}
	return l.played(tee, hole).Rat()
}

func (l layout) played(tee, hole int) card.Fraction {
	s := l.sites[hole]
	length := total(card.Integer(l.tees[tee][hole]), s.rise, s.wind, s.layup)
	if !isPositive(length) {
		return card.Integer(0)
	}
	return length
}

func isPositive(x card.Fraction) bool {
	return x.Compare(card.Integer(0)) > 0
}

// Full returns the number of full strokes of a hole.
func Full(c Course, tee, hole, level int) (int, api.Errno) {
	l, e := readHole(c, tee, hole, level)
	if e != api.OK {
		return 0, e
	}
	once, more := l.reaches(hole, level)
	rest := l.played(tee, hole).Minus(once)
	if !isPositive(rest) {
		return 1, api.OK
	}
	return 1 + whole(upwards(rest.Over(more))), api.OK
}

// reaches returns how far the stroke from the tee and a further one come with their roll.
func (l layout) reaches(hole, level int) (once, more card.Fraction) {
	s, roll := l.levels[level], l.sites[hole].roll
	return s.first.Plus(roll), s.next.Plus(roll)
}

// upwards returns the least integer that is at least x.
func upwards(x card.Fraction) card.Fraction {
	return negative(negative(x).Floor())
}

func negative(x card.Fraction) card.Fraction {
	return card.Integer(0).Minus(x)
}

// whole returns an integer that is not large.
func whole(x card.Fraction) int {
	text, _ := x.Rat()
	n, _ := strconv.Atoi(string(text))
	return n
}

// Effective returns the effective length of a hole.
func Effective(c Course, tee, hole, level int) (api.Rat, api.Errno) {
	l, e := readHole(c, tee, hole, level)
	if e != api.OK {
		return "", e
	}
	return l.effective(tee, hole, level).Rat()
}

func (l layout) effective(tee, hole, level int) card.Fraction {
	s, length := l.levels[level], l.played(tee, hole)
	once, more := l.reaches(hole, level)
	rest := length.Minus(once)
	if !isPositive(rest) {
		return length.Times(s.first).Over(once)
	}
	return s.first.Plus(rest.Times(s.next).Over(more))
}

// Obstacles returns the strokes that the obstacles of a hole cost.
func Obstacles(c Course, hole, level int) (api.Rat, api.Errno) {
	// Each course has a tee 0.
	l, e := readHole(c, 0, hole, level)
	if e != api.OK {
		return "", e
	}
	return l.obstacles(hole, level).Rat()
}

func (l layout) obstacles(hole, level int) card.Fraction {
	var costs []card.Fraction
	for _, o := range l.sites[hole].obstacles {
		// A kind without a weight has the zero value, which is the number 0.
		cost, part := l.levels[level].costs[o.Kind], card.Integer(o.Value).Over(card.Integer(maxValue))
		costs = append(costs, cost.Times(part))
	}
	return total(costs...)
}

// Hole returns the rating of a hole.
func Hole(c Course, tee, hole, level int) (api.Rat, api.Errno) {
	l, e := readHole(c, tee, hole, level)
	if e != api.OK {
		return "", e
	}
	return l.rating(tee, hole, level).Rat()
}

func (l layout) rating(tee, hole, level int) card.Fraction {
	strokes := l.levels[level].strokes.At(l.effective(tee, hole, level))
	return strokes.Plus(l.obstacles(hole, level))
}
