package handicap_test

import (
	"fmt"
	"math/rand"
	"slices"
	"strings"
	"testing"

	"niblick/api"
	"niblick/handicap"
)

func TestP6_1Examples(t *testing.T) {
	for i, want := range []api.Rat{"15", "54/5", "96/5", "4/5"} {
		d, e := handicap.Differential(sample(4)[i])
		gives(t, fmt.Sprint("the differential of the score ", i+1), d, e, want)
	}
	l, e := handicap.Correct(sample(4), score(2, 20, 91))
	gives(t, "the corrected scores", l, e, []handicap.Score{score(1, 10, 90), score(2, 20, 91), score(3, 30, 95), score(4, 40, 73)})
	d, e := handicap.Differential(l[1])
	gives(t, "the corrected differential", d, e, "79/5")
}

func TestP6_1Sorted(t *testing.T) {
	a, b, c, d := score(7, 0, 90), score(2, 5, 99), score(11, 5, 90), score(1, 99999, 80)
	want := []handicap.Score{a, b, c, d}
	random := rand.New(rand.NewSource(1))
	for range 50 {
		l := slices.Clone(want)
		random.Shuffle(len(l), func(i, j int) { l[i], l[j] = l[j], l[i] })
		got, e := handicap.Sorted(l)
		gives(t, fmt.Sprint("sorted ", l), got, e, want)
	}
	got, e := handicap.Sorted(nil)
	gives(t, "nothing sorted", got, e, nil)
	for range 200 {
		l := randomScores(random, random.Intn(40), player{90, 5, 1 + random.Intn(30)})
		got, e := handicap.Sorted(l)
		gives(t, "at random", got, e, slowSorted(l))
	}
}

func TestP6_1Merge(t *testing.T) {
	all := sample(4)
	for _, c := range []struct {
		name       string
		a, b, want []handicap.Score
	}{
		{"nothing", nil, nil, nil},
		{"all and nothing", all, nil, all},
		{"nothing and all", nil, all, all},
		{"all and all", all, all, all},
		{"two and two", []handicap.Score{all[3], all[0]}, []handicap.Score{all[2], all[1]}, all},
		{"one in both", []handicap.Score{all[2], all[0]}, []handicap.Score{all[3], all[2], all[1]}, all},
		{"one day", []handicap.Score{score(9, 5, 80), score(2, 5, 80)}, []handicap.Score{score(3, 5, 80), score(1, 6, 80)}, []handicap.Score{score(2, 5, 80), score(3, 5, 80), score(9, 5, 80), score(1, 6, 80)}},
	} {
		l, e := handicap.Merge(c.a, c.b)
		gives(t, c.name, l, e, c.want)
	}
	for i, change := range []func(s *handicap.Score){
		func(s *handicap.Score) { s.Day++ },
		func(s *handicap.Score) { s.Gross++ },
		func(s *handicap.Score) { s.Rating = "721/10" },
		func(s *handicap.Score) { s.Slope++ },
		func(s *handicap.Score) { s.Conditions++ },
	} {
		l := slices.Clone(all)
		change(&l[2])
		got, e := handicap.Merge(all, l)
		fails(t, fmt.Sprint("another score ", i), got, e, api.ErrConflict)
		change(&l[0])
		l[0].Number = 5
		got, e = handicap.Merge(l, all)
		fails(t, fmt.Sprint("another score ", i, " of the first list"), got, e, api.ErrConflict)
	}
}

func TestP6_1MergeOfMany(t *testing.T) {
	l := many(257)
	got, e := handicap.Merge(l[:200], l[100:256])
	gives(t, "256 scores", got, e, slowSorted(l[:256]))
	got, e = handicap.Merge(l[:256], l[:256])
	gives(t, "256 scores in both", got, e, slowSorted(l[:256]))
	got, e = handicap.Merge(l[:256], l[256:])
	fails(t, "257 scores", got, e, api.ErrMany)
	got, e = handicap.Merge(l[:200], l[100:])
	fails(t, "257 scores of both", got, e, api.ErrMany)
	other := slices.Clone(l[200:])
	other[len(other)-1].Number = 1
	other[len(other)-1].Gross++
	got, e = handicap.Merge(l[:256], append(other, score(1000, 1, 99)))
	fails(t, "257 scores, one of them another one", got, e, api.ErrConflict)
}

func TestP6_1Correct(t *testing.T) {
	all := sample(4)
	for _, c := range []struct {
		name string
		s    handicap.Score
		want []handicap.Score
	}{
		{"the same score", all[1], all},
		{"other strokes", score(4, 40, 99), []handicap.Score{all[0], all[1], all[2], score(4, 40, 99)}},
		{"a first day", score(3, 0, 95), []handicap.Score{score(3, 0, 95), all[0], all[1], all[3]}},
		{"a last day", score(1, 50, 95), []handicap.Score{all[1], all[2], all[3], score(1, 50, 95)}},
		{"the day of one with a lesser number", score(3, 20, 95), []handicap.Score{all[0], all[1], score(3, 20, 95), all[3]}},
		{"the day of one with a greater number", score(2, 30, 95), []handicap.Score{all[0], score(2, 30, 95), all[2], all[3]}},
	} {
		l, e := handicap.Correct([]handicap.Score{all[2], all[0], all[3], all[1]}, c.s)
		gives(t, c.name, l, e, c.want)
	}
	for _, n := range []int{5, 999999999} {
		l, e := handicap.Correct(all, score(n, 10, 90))
		fails(t, "a score that is not there", l, e, api.ErrUnknown)
	}
	l, e := handicap.Correct(nil, all[0])
	fails(t, "no scores", l, e, api.ErrUnknown)
	l, e = handicap.Correct(all, score(5, 10, 1000))
	fails(t, "a score with an error that is not there", l, e, api.ErrRange)
	l, e = handicap.Correct(append(sample(4), all[0]), score(5, 10, 90))
	fails(t, "scores with an error", l, e, api.ErrTwice)
}

func TestP6_1Differential(t *testing.T) {
	of := func(gross int, rating api.Rat, slope, conditions int) handicap.Score {
		return handicap.Score{Day: 1, Number: 1, Gross: gross, Rating: rating, Slope: slope, Conditions: conditions}
	}
	for _, c := range []struct {
		name string
		s    handicap.Score
		want api.Rat
	}{
		{"the rating", of(72, "72", 113, 0), "0"},
		{"one above", of(73, "72", 100, 0), "1"},
		{"one below", of(71, "72", 100, 0), "-1"},
		{"a hard day", of(90, "72", 120, 3), "25/2"},
		{"an easy day", of(90, "72", 100, -5), "23"},
		{"half a tenth above", of(90, "1799/20", 100, 0), "1/10"},
		{"half a tenth below", of(89, "1781/20", 100, 0), "0"},
		{"less than half a tenth", of(90, "17991/200", 100, 0), "0"},
		{"more than half a tenth below", of(89, "17811/200", 100, 0), "-1/10"},
		{"a third", of(73, "72", 150, 0), "7/10"},
		{"a third below", of(71, "72", 150, 0), "-7/10"},
		{"the most", of(999, "1", 55, -5), "9118/5"},
		{"the fewest", of(1, "200", 55, 5), "-3709/10"},
	} {
		d, e := handicap.Differential(c.s)
		gives(t, c.name, d, e, c.want)
	}
	// 600 digits decide about half a tenth.
	bottom := "1" + strings.Repeat("0", 590)
	d, e := handicap.Differential(of(90, api.Rat("8995"+strings.Repeat("0", 587)+"1/"+bottom), 100, 0))
	gives(t, "hardly less than half a tenth", d, e, "0")
	d, e = handicap.Differential(of(90, api.Rat("8994"+strings.Repeat("9", 588)+"/"+bottom), 100, 0))
	gives(t, "hardly more than half a tenth", d, e, "1/10")
}

func TestP6_1DifferentialByDefinition(t *testing.T) {
	random := rand.New(rand.NewSource(2))
	for range 5000 {
		s := randomScores(random, 1, player{1, 999, 10})[0]
		s.Rating, s.Slope, s.Conditions = randomRating(random), 55+random.Intn(101), random.Intn(11)-5
		d, e := handicap.Differential(s)
		gives(t, fmt.Sprint("the differential of ", s), d, e, rat(slowDifferential(s)))
	}
}
