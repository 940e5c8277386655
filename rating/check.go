package rating

import (
	"niblick/api"
	"niblick/card"
)

// Limits of obstacles, and of the weights of a level.
const (
	maxKinds = 16
	maxValue = 10
)

// first returns the first error that is one.
func first(l ...api.Errno) api.Errno {
	for _, e := range l {
		if e != api.OK {
			return e
		}
	}
	return api.OK
}

// unless returns an error unless something is right.
func unless(right bool, e api.Errno) api.Errno {
	if right {
		return api.OK
	}
	return e
}

// within returns the error of an integer that is not between two others.
func within(n, least, most int) api.Errno {
	return unless(least <= n && n <= most, api.ErrRange)
}

// short returns the error of a list that is too long.
func short[T any](l []T, most int) api.Errno {
	return unless(len(l) <= most, api.ErrMany)
}

// sized returns the error of a list that is empty or too long.
func sized[T any](l []T, most int) api.Errno {
	return first(unless(len(l) > 0, api.ErrEmpty), short(l, most))
}

// known returns the error of a number that no element of a list has.
func known[T any](l []T, number int) api.Errno {
	return unless(0 <= number && number < len(l), api.ErrUnknown)
}

// readList returns what the elements of a list give, or the error of the list, or of its first element with one.
func readList[A, B any](l []A, most int, read func(a A) (B, api.Errno)) ([]B, api.Errno) {
	if e := sized(l, most); e != api.OK {
		return nil, e
	}
	given := make([]B, len(l))
	for i, a := range l {
		b, e := read(a)
		if e != api.OK {
			return nil, e
		}
		given[i] = b
	}
	return given, api.OK
}

// readNumber returns a number, or its error if it is none or less than an integer.
func readNumber(a api.Rat, least int) (card.Fraction, api.Errno) {
	x, e := card.Read(a)
	return x, first(e, unless(x.Compare(card.Integer(least)) >= 0, api.ErrRange))
}

// readYards returns a number of yards, or its error.
func readYards(a api.Rat, least int) (card.Fraction, api.Errno) {
	x, e := readNumber(a, least)
	return x, first(e, unless(x.Compare(card.Integer(MaxYards)) <= 0, api.ErrRange))
}

// skill is a level whose numbers have been read; its costs are the strokes that obstacles cost, by kinds.
type skill struct {
	first, next card.Fraction
	strokes     card.Table
	costs       map[string]card.Fraction
}

// CheckLevel returns the first error of a level, or OK.
func CheckLevel(l Level) api.Errno {
	_, e := readLevel(l)
	return e
}

func readLevel(l Level) (skill, api.Errno) {
	tee, teeError := readYards(l.First, 1)
	next, nextError := readYards(l.Next, 1)
	strokes, strokesError := card.ReadTable(l.Strokes)
	costs, costsError := readWeights(l.Weights)
	e := first(
		unless(card.IsName(l.Name), api.ErrName),
		teeError,
		nextError,
		strokesError,
		checkRising(l.Strokes),
		costsError)
	return skill{tee, next, strokes, costs}, e
}

// checkRising returns the error of a table with numbers Y that descend.
func checkRising(t []api.Point) api.Errno {
	for i := 1; i < len(t); i++ {
		if order, _ := card.Compare(t[i-1].Y, t[i].Y); order > 0 {
			return api.ErrOrder
		}
	}
	return api.OK
}

// readWeights returns the costs of obstacles by kinds, or the error of the first weight with one.
func readWeights(l []Weight) (map[string]card.Fraction, api.Errno) {
	if e := short(l, maxKinds); e != api.OK {
		return nil, e
	}
	costs, e := map[string]card.Fraction{}, api.OK
search:
	for _, w := range l {
		_, twice := costs[w.Kind]
		switch cost, wrong := readNumber(w.Strokes, 0); {
		case !card.IsName(w.Kind):
			e = api.ErrName
			break search
		case twice:
			e = api.ErrTwice
			break search
		case wrong != api.OK:
			e = wrong
			break search
		default:
			costs[w.Kind] = cost
		}
	}
	return costs, e
}

// ground is a site whose numbers have been read.
type ground struct {
	rise, wind, layup, roll card.Fraction
	obstacles               []Obstacle
}

func readSite(s Site) (ground, api.Errno) {
	rise, riseError := readYards(s.Rise, -MaxYards)
	wind, windError := readYards(s.Wind, -MaxYards)
	layup, layupError := readYards(s.Layup, 0)
	roll, rollError := readYards(s.Roll, 0)
	e := first(riseError, windError, layupError, rollError, checkObstacles(s.Obstacles))
	return ground{rise, wind, layup, roll, s.Obstacles}, e
}

func checkObstacles(l []Obstacle) api.Errno {
	if e := short(l, maxKinds); e != api.OK {
		return e
	}
	for _, o := range l {
		if e := first(unless(card.IsName(o.Kind), api.ErrName), within(o.Value, 0, maxValue)); e != api.OK {
			return e
		}
	}
	return api.OK
}

// layout is a course whose numbers have been read.
type layout struct {
	sites  []ground
	tees   [][]int // their lengths
	levels []skill
}

// CheckCourse returns the first error of a course, or OK.
func CheckCourse(c Course) api.Errno {
	_, e := readCourse(c)
	return e
}

func readCourse(c Course) (layout, api.Errno) {
	sites, sitesError := readList(c.Sites, api.MaxHoles, readSite)
	tees, teesError := readTees(c.Tees, len(c.Sites))
	levels, levelsError := readLevels(c.Levels)
	return layout{sites, tees, levels}, first(sitesError, teesError, levelsError)
}

// readTees returns the lengths of tees of so many holes, or the error of the first one with one.
func readTees(l []Tee, holes int) ([][]int, api.Errno) {
	earlier := names{}
	return readList(l, MaxTees, func(t Tee) ([]int, api.Errno) {
		return t.Lengths, first(
			unless(card.IsName(t.Name), api.ErrName),
			earlier.add(t.Name),
			unless(len(t.Lengths) == holes, api.ErrShape),
			checkNumbers(t.Lengths, MaxYards))
	})
}

func readLevels(l []Level) ([]skill, api.Errno) {
	earlier := names{}
	return readList(l, MaxTees, func(l Level) (skill, api.Errno) {
		s, e := readLevel(l)
		return s, first(e, earlier.add(l.Name))
	})
}

// names has the names that were there so far.
type names map[string]bool

// add returns the error of a name that was there already.
func (n names) add(name string) api.Errno {
	twice := n[name]
	n[name] = true
	return unless(!twice, api.ErrTwice)
}

// checkNumbers returns the error of integers that are not from 1 to a greatest one.
func checkNumbers(l []int, most int) api.Errno {
	for _, n := range l {
		if e := within(n, 1, most); e != api.OK {
			return e
		}
	}
	return api.OK
}
