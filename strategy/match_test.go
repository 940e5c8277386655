package strategy_test

import (
	"fmt"
	"math/big"
	"math/rand"
	"slices"
	"strings"
	"testing"

	"niblick/api"
	"niblick/strategy"
)

func TestP9_5Contest(t *testing.T) {
	for _, x := range []struct{ a, b, want string }{
		{"3:1/2 4:1/2", "4:1", "1/2 1/2 0"},
		{"4:1", "3:1/2 4:1/2", "0 1/2 1/2"},
		{"4:1", "4:1", "0 1 0"},
		{"3:1", "4:1", "1 0 0"},
		{"-999999999:1", "999999999:1", "1 0 0"},
		{"999999999:1", "-999999999:1", "0 0 1"},
		{"3:1/4 4:1/2 5:1/4", "3:1/4 4:1/2 5:1/4", "5/16 3/8 5/16"},
		{"3:1/4 5:3/4", "4:1/8 6:7/8", "29/32 0 3/32"},
	} {
		o, e := strategy.Contest(chances(x.a), chances(x.b))
		gives(t, x.a+" and "+x.b, o, e, odds(x.want)[0])
	}
	for _, x := range []struct {
		a, b string
		want api.Errno
	}{
		{"", "3:1/3", api.ErrEmpty},
		{"3:1/2 4:1/4", "", api.ErrSum},
		{"3:1/2 4:1/2", "4:1/2 3:1/2", api.ErrOrder},
		{"3:1", "", api.ErrEmpty},
		{"3:1", "3:1/3 4:2/3", api.ErrForm},
	} {
		o, e := strategy.Contest(chances(x.a), chances(x.b))
		fails(t, x.a+" and "+x.b, o, e, x.want)
	}
}

// powers returns 2^n, and the number that is less by 1.
func powers(n uint) (string, string) {
	power := new(big.Int).Lsh(big.NewInt(1), n)
	return power.String(), new(big.Int).Sub(power, big.NewInt(1)).String()
}

func TestP9_5ContestAtTheLimit(t *testing.T) {
	// 2^1993 is the greatest power with 600 digits.
	power, less := powers(1993)
	is(t, "the digits", len(power), 600)
	long := "3:1/" + power + " 4:" + less + "/" + power
	o, e := strategy.Contest(chances(long), chances("4:1"))
	gives(t, "600 digits", o, e, strategy.Odds{Won: api.Rat("1/" + power), Halved: api.Rat(less + "/" + power), Lost: "0"})
	o, e = strategy.Contest(chances(long), chances("5:1"))
	gives(t, "a sum that is short", o, e, odds("1 0 0")[0])
	o, e = strategy.Contest(chances(long), chances(strings.NewReplacer("3:", "5:", "4:", "6:").Replace(long)))
	gives(t, "long products on the way", o, e, odds("1 0 0")[0])
	for _, other := range []string{"3:1/2 4:1/2", "3:1/2 5:1/2", "4:1/2 6:1/2", long} {
		o, e = strategy.Contest(chances(long), chances(other))
		fails(t, "601 digits", o, e, api.ErrLarge)
		o, e = strategy.Contest(chances(other), chances(long))
		fails(t, "601 digits", o, e, api.ErrLarge)
	}
}

func TestP9_5ContestAsDefined(t *testing.T) {
	random := rand.New(rand.NewSource(10))
	for n := range 1500 {
		a, b := randomChances(random, 1+random.Intn(6)), randomChances(random, 1+random.Intn(6))
		if n%50 == 0 {
			a, b = randomChances(random, 64), randomChances(random, 64)
		}
		o, e := strategy.Contest(a, b)
		gives(t, fmt.Sprint(a, b), o, e, slowContest(a, b).odds())
	}
}

func TestP9_5Lead(t *testing.T) {
	for _, x := range []struct {
		l    []strategy.Odds
		want string
	}{
		{odds("1/2 1/2 0", "1/2 1/2 0"), "0:1/4 1:1/2 2:1/4"},
		{nil, "0:1"},
		{odds("0 0 1"), "-1:1"},
		{odds("0 1 0"), "0:1"},
		{odds("1/3 0 2/3"), "-1:2/3 1:1/3"},
		{odds("1/2 0 1/2", "1/2 0 1/2", "1/2 0 1/2"), "-3:1/8 -1:3/8 1:3/8 3:1/8"},
		{odds("1 0 0", "0 0 1", "1/5 3/5 1/5"), "-1:1/5 0:3/5 1:1/5"},
	} {
		l, e := strategy.Lead(x.l)
		gives(t, fmt.Sprint(x.l), l, e, chances(x.want))
	}
	l, e := strategy.Lead(odds("1/2 1/2 0", "1/2 1/2 1"))
	fails(t, "another sum", l, e, api.ErrSum)
}

// With 36 holes there are 73 leads, more than other tables of chances have.
func TestP9_5LeadAtTheLimits(t *testing.T) {
	holes := slices.Repeat(odds("1/4 1/2 1/4"), 36)
	l, e := strategy.Lead(holes)
	// A hole is as two tosses of a coin.
	var want []api.Chance
	for lead := -36; lead <= 36; lead++ {
		ways := new(big.Int).Binomial(72, int64(36+lead))
		want = append(want, api.Chance{Value: lead, Weight: ratOf(new(big.Rat).SetFrac(ways, new(big.Int).Lsh(big.NewInt(1), 72)))})
	}
	gives(t, "36 holes", l, e, want)
	l, e = strategy.Lead(append(holes, holes[0]))
	fails(t, "37 holes", l, e, api.ErrMany)
	// 10^599 has 600 digits, so that one hole fits, and two holes do not.
	power := "1" + strings.Repeat("0", 599)
	small := strategy.Odds{Won: api.Rat("1/" + power), Halved: "0", Lost: api.Rat(nines(599) + "/" + power)}
	l, e = strategy.Lead([]strategy.Odds{small})
	gives(t, "600 digits", l, e, []api.Chance{{Value: -1, Weight: small.Lost}, {Value: 1, Weight: small.Won}})
	l, e = strategy.Lead([]strategy.Odds{small, odds("1/16 15/16 0")[0]})
	fails(t, "601 digits", l, e, api.ErrLarge)
	l, e = strategy.Lead([]strategy.Odds{small, odds("0 0 1")[0]})
	gives(t, "600 digits again", l, e, []api.Chance{{Value: -2, Weight: small.Lost}, {Value: 0, Weight: small.Won}})
}

func TestP9_5Match(t *testing.T) {
	half := odds("1/2 1/2 0", "1/2 1/2 0")
	for _, x := range []struct {
		l    []strategy.Odds
		lead int
		want string
	}{
		{half, -1, "1/4 1/2 1/4"},
		{half, 0, "3/4 1/4 0"},
		{half, -2, "0 1/4 3/4"},
		{half, -3, "0 0 1"},
		{half, 36, "1 0 0"},
		{half, -36, "0 0 1"},
		{nil, 0, "0 1 0"},
		{nil, 1, "1 0 0"},
		{nil, -1, "0 0 1"},
		{odds("1/3 1/6 1/2"), 1, "1/2 1/2 0"},
		{odds("1/3 1/6 1/2"), 0, "1/3 1/6 1/2"},
		{odds("1/3 1/6 1/2"), -1, "0 1/3 2/3"},
		{slices.Repeat(odds("0 0 1"), 36), 36, "0 1 0"},
		{slices.Repeat(odds("1 0 0"), 36), -36, "0 1 0"},
		{slices.Repeat(odds("1 0 0"), 36), -35, "1 0 0"},
	} {
		o, e := strategy.Match(x.l, x.lead)
		gives(t, fmt.Sprint(x.l, x.lead), o, e, odds(x.want)[0])
	}
	o, e := strategy.Match(odds("1 1 0"), 37)
	fails(t, "the odds first", o, e, api.ErrSum)
	o, e = strategy.Match(half, 37)
	fails(t, "a great lead", o, e, api.ErrRange)
	o, e = strategy.Match(half, -37)
	fails(t, "a small lead", o, e, api.ErrRange)
}

// longOdds returns odds that are long, each hole with others.
func longOdds(random *rand.Rand) strategy.Odds {
	for {
		bottom, _ := new(big.Int).SetString("9"+fmt.Sprint(100+random.Intn(900))+nines(100+random.Intn(480)), 10)
		won := new(big.Int).Rand(random, bottom)
		halved := new(big.Int).Rand(random, new(big.Int).Sub(bottom, won))
		lost := new(big.Int).Sub(bottom, new(big.Int).Add(won, halved))
		o := strategy.Odds{Won: ratOf(new(big.Rat).SetFrac(won, bottom)), Halved: ratOf(new(big.Rat).SetFrac(halved, bottom)), Lost: ratOf(new(big.Rat).SetFrac(lost, bottom))}
		if strategy.CheckOdds(o) == api.OK {
			return o
		}
	}
}

// What is long on the way does not matter if the result is short.
func TestP9_5NoBoundsOnTheWay(t *testing.T) {
	random := rand.New(rand.NewSource(11))
	var l []strategy.Odds
	var choices [][]strategy.Odds
	for range 36 {
		l = append(l, longOdds(random))
		choices = append(choices, []strategy.Odds{l[len(l)-1], odds("1/2 0 1/2")[0]})
	}
	o, e := strategy.Match(l[:35], 36)
	gives(t, "a match that is won", o, e, odds("1 0 0")[0])
	o, e = strategy.Match(l[:35], -36)
	gives(t, "a match that is lost", o, e, odds("0 0 1")[0])
	o, e = strategy.Match(l, 36)
	fails(t, "a match that may be halved", o, e, api.ErrLarge)
	leads, e := strategy.Lead(l)
	fails(t, "the leads", leads, e, api.ErrLarge)
	r, e := risk(choices[:20], 21)
	gives(t, "a win", r, e, risked{"1", 0})
	r, e = risk(choices[:20], -21)
	gives(t, "a loss", r, e, risked{"0", 0})
	r, e = risk(choices[:20], 20)
	fails(t, "perhaps half a win", r, e, api.ErrLarge)
	// To halve all holes is the best one can do, but for choices that are worth nothing.
	for i := range choices {
		choices[i] = []strategy.Odds{{Won: "0", Halved: l[i].Halved, Lost: sumOf(l[i].Won, l[i].Lost)}, odds("0 1 0")[0]}
	}
	r, e = risk(choices[:12], 0)
	gives(t, "half", r, e, risked{"1/2", 1})
}

func sumOf(a, b api.Rat) api.Rat {
	return ratOf(new(big.Rat).Add(bigOf(a), bigOf(b)))
}

func TestP9_5MatchesAsDefined(t *testing.T) {
	random := rand.New(rand.NewSource(12))
	for range 800 {
		l := randomList(random, random.Intn(6))
		table, e := strategy.Lead(l)
		gives(t, fmt.Sprint("Lead ", l), table, e, slowLead(l))
		lead := random.Intn(2*len(l)+3) - len(l) - 1
		o, e := strategy.Match(l, lead)
		gives(t, fmt.Sprint("Match ", l, lead), o, e, slowMatch(l, lead).odds())
	}
}

func TestP9_5Risk(t *testing.T) {
	two := [][]strategy.Odds{odds("0 1 0", "1/4 0 3/4")}
	for _, x := range []struct {
		l    [][]strategy.Odds
		lead int
		want risked
	}{
		{two, 0, risked{"1/2", 0}},
		{two, -1, risked{"1/8", 1}},
		{two, 1, risked{"1", 0}},
		{two, 2, risked{"1", 0}},
		{two, -2, risked{"0", 0}},
		{nil, 0, risked{"1/2", -1}},
		{nil, 36, risked{"1", -1}},
		{nil, -36, risked{"0", -1}},
		{[][]strategy.Odds{odds("1/4 0 3/4", "0 1 0", "0 1 0")}, 0, risked{"1/2", 1}},
		{[][]strategy.Odds{odds("1/4 1/2 1/4", "1/2 0 1/2", "0 1 0")}, 0, risked{"1/2", 0}},
		{[][]strategy.Odds{odds("0 0 1"), odds("0 1 0", "1 0 0")}, 0, risked{"1/2", 0}},
		{[][]strategy.Odds{odds("0 0 1", "0 1 0"), odds("0 1 0", "1 0 0")}, 0, risked{"1", 1}},
		// Who is behind need not be bold at once.
		{append(slices.Clone(two), two...), 0, risked{"1/2", 0}},
		{append(slices.Clone(two), two...), -1, risked{"1/8", 0}},
		{append(slices.Clone(two), two...), 1, risked{"1", 0}},
		{[][]strategy.Odds{slices.Repeat(odds("1/2 0 1/2"), 8)}, 0, risked{"1/2", 0}},
		{[][]strategy.Odds{append(slices.Repeat(odds("1/2 0 1/2"), 7), odds("2/3 0 1/3")...)}, 0, risked{"2/3", 7}},
	} {
		r, e := risk(x.l, x.lead)
		gives(t, fmt.Sprint(x.l, x.lead), r, e, x.want)
	}
	for _, x := range []struct {
		l    [][]strategy.Odds
		lead int
		want api.Errno
	}{
		{[][]strategy.Odds{two[0], nil}, 37, api.ErrEmpty},
		{[][]strategy.Odds{two[0], make([]strategy.Odds, 9)}, 37, api.ErrMany},
		{[][]strategy.Odds{odds("1 0 0", "1 0 1"), nil}, 37, api.ErrSum},
		{make([][]strategy.Odds, 37), 37, api.ErrMany},
		{two, 37, api.ErrRange},
		{two, -37, api.ErrRange},
	} {
		r, e := risk(x.l, x.lead)
		fails(t, fmt.Sprint(x.l, x.lead), r, e, x.want)
	}
}

func TestP9_5RiskAsDefined(t *testing.T) {
	random := rand.New(rand.NewSource(13))
	bold := 0
	for n := range 600 {
		holes := random.Intn(3)
		l := randomChoices(random, holes, 3)
		if n%60 == 0 {
			l = randomChoices(random, 3, 2)
		}
		lead := random.Intn(2*len(l)+3) - len(l) - 1
		r, e := risk(l, lead)
		gives(t, fmt.Sprint(l, lead), r, e, slowRisk(l, lead))
		if r.choice > 0 {
			bold++
		}
	}
	is(t, "often another choice than the first", bold > 50, true)
}

// At all limits the value is that of the definition, hole by hole from the last one.
func TestP9_5RiskAtTheLimits(t *testing.T) {
	random := rand.New(rand.NewSource(14))
	var l [][]strategy.Odds
	for range 36 {
		l = append(l, randomList(random, 8))
	}
	values := map[int]*big.Rat{}
	for lead := -72; lead <= 72; lead++ {
		values[lead] = slowMatch(nil, lead).value()
	}
	choices := map[int]int{}
	for hole := 35; hole >= 0; hole-- {
		before := map[int]*big.Rat{}
		for lead := -36 - hole; lead <= 36+hole; lead++ {
			for k, o := range l[hole] {
				value := new(big.Rat).Mul(bigOf(o.Won), values[lead+1])
				value.Add(value, new(big.Rat).Mul(bigOf(o.Halved), values[lead]))
				value.Add(value, new(big.Rat).Mul(bigOf(o.Lost), values[lead-1]))
				if before[lead] == nil || value.Cmp(before[lead]) > 0 {
					before[lead], choices[lead] = value, k
				}
			}
		}
		values = before
	}
	for lead := -36; lead <= 36; lead += 4 {
		r, e := risk(l, lead)
		gives(t, fmt.Sprint(lead), r, e, risked{ratOf(values[lead]), choices[lead]})
	}
	r, e := risk(append(l, l[0]), 0)
	fails(t, "37 holes", r, e, api.ErrMany)
}
