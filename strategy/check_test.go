package strategy_test

import (
	"fmt"
	"math"
	"math/rand"
	"slices"
	"strings"
	"testing"

	"niblick/api"
	"niblick/strategy"
)

// moveFlaws are the flaws of a move, in their order.
func moveFlaws(of func(name string, spoil func(q *question), want api.Errno) flaw, name string, moves func(q *question) []strategy.Move, k int) []flaw {
	var l []flaw
	add := func(what string, change func(m *strategy.Move), want api.Errno) {
		l = append(l, of(fmt.Sprint(what, name, k), func(q *question) { change(&moves(q)[k]) }, want))
	}
	to := func(n int) func(m *strategy.Move) { return func(m *strategy.Move) { m.To = n } }
	penalty := func(n int) func(m *strategy.Move) { return func(m *strategy.Move) { m.Penalty = n } }
	chance := func(a api.Rat) func(m *strategy.Move) { return func(m *strategy.Move) { m.Chance = a } }
	add("to -2", to(-2), api.ErrUnknown)
	add("to 3", to(3), api.ErrUnknown)
	add("a penalty below", penalty(-1), api.ErrRange)
	add("a penalty above", penalty(10), api.ErrRange)
	add("a chance that is none", chance("2/4"), api.ErrForm)
	add("a long chance", chance(api.Rat("1/"+nines(601))), api.ErrLarge)
	add("a chance below", chance("-1/2"), api.ErrRange)
	add("the chance 0", chance("0"), api.ErrRange)
	add("a chance above", chance("3/2"), api.ErrRange)
	add("a little above", chance("65537/65536"), api.ErrRange)
	add("a part of a part", chance("1/131072"), api.ErrRange)
	add("a third", chance("1/3"), api.ErrRange)
	add("a great chance", chance(api.Rat(nines(600))), api.ErrRange)
	if k > 0 {
		l = append(l, of(fmt.Sprint("the same again", name, k), func(q *question) {
			moves(q)[k].To, moves(q)[k].Penalty = moves(q)[k-1].To, moves(q)[k-1].Penalty
		}, api.ErrTwice))
	}
	return l
}

// clubFlaws are the flaws of a club, in their order.
func clubFlaws(of func(name string, spoil func(q *question), want api.Errno) flaw, name string, clubs func(q *question) []strategy.Club, i int) []flaw {
	var l []flaw
	add := func(what string, change func(c *strategy.Club), want api.Errno) {
		l = append(l, of(fmt.Sprint(what, name, i), func(q *question) { change(&clubs(q)[i]) }, want))
	}
	add("no name", func(c *strategy.Club) { c.Name = "" }, api.ErrName)
	add("a long name", func(c *strategy.Club) { c.Name = strings.Repeat("a", 25) }, api.ErrName)
	if i > 0 {
		l = append(l, of(fmt.Sprint("a name twice", name, i), func(q *question) { clubs(q)[i].Name = clubs(q)[0].Name }, api.ErrTwice))
	}
	add("no moves", func(c *strategy.Club) { c.Moves = nil }, api.ErrEmpty)
	add("33 moves", func(c *strategy.Club) { c.Moves = make([]strategy.Move, 33) }, api.ErrMany)
	for k := range clubs(new(fresh()))[i].Moves {
		l = append(l, moveFlaws(of, fmt.Sprint(name, i, " "), func(q *question) []strategy.Move { return clubs(q)[i].Moves }, k)...)
	}
	add("another chance at first", func(c *strategy.Club) { c.Moves[0].Chance = "16385/32768" }, api.ErrSum)
	add("another chance at last", func(c *strategy.Club) { c.Moves[len(c.Moves)-1].Chance = "3/65536" }, api.ErrSum)
	return l
}

// processFlaws are the flaws of a process, in their order.
func processFlaws(name string, p func(q *question) *strategy.Process) []flaw {
	of := flawOf(name)
	l := []flaw{
		of("no states", func(q *question) { p(q).States = nil }, api.ErrEmpty),
		of("25 states", func(q *question) { p(q).States = make([]strategy.State, 25) }, api.ErrMany),
	}
	for i, s := range p(new(fresh())).States {
		add := func(what string, change func(s *strategy.State), want api.Errno) {
			l = append(l, of(fmt.Sprint(what, " ", i), func(q *question) { change(&p(q).States[i]) }, want))
		}
		add("no name", func(s *strategy.State) { s.Name = "1" }, api.ErrName)
		if i > 0 {
			l = append(l, of(fmt.Sprint("a name twice ", i), func(q *question) { p(q).States[i].Name = p(q).States[0].Name }, api.ErrTwice))
		}
		add("no clubs", func(s *strategy.State) { s.Clubs = nil }, api.ErrEmpty)
		add("9 clubs", func(s *strategy.State) { s.Clubs = make([]strategy.Club, 9) }, api.ErrMany)
		for k := range s.Clubs {
			l = append(l, clubFlaws(of, fmt.Sprint(" ", i, " "), func(q *question) []strategy.Club { return p(q).States[i].Clubs }, k)...)
		}
	}
	return l
}

// Of all errors of a process the first one decides.
func TestP9_1ProcessErrorsInOrder(t *testing.T) {
	flaws := processFlaws("process", func(q *question) *strategy.Process { return &q.process })
	for i, f := range flaws {
		q := fresh()
		f.spoil(&q)
		is(t, f.name, strategy.CheckProcess(q.process), f.want)
		for _, later := range flaws[i+1:] {
			q := fresh()
			later.spoil(&q)
			f.spoil(&q)
			is(t, f.name+" and "+later.name, strategy.CheckProcess(q.process), f.want)
		}
	}
}

func TestP9ErrorsInOrder(t *testing.T) {
	expect(t, "no flaw", fresh(), func(a answer) api.Errno { return api.OK })
	var l []flaw
	for _, f := range slices.Concat(
		processFlaws("process", func(q *question) *strategy.Process { return &q.process }),
		processFlaws("hole", func(q *question) *strategy.Process { return &q.hole })) {
		// All others are tried with CheckProcess alone.
		if strings.HasSuffix(f.name, "states of "+f.of) || strings.Contains(f.name, " 2 1 1 of ") {
			l = append(l, f)
		}
	}
	is(t, "some of each kind", len(l) > 20, true)
	inOrder(t, slices.Concat(l, otherFlaws())...)
}

// otherFlaws are the flaws of all arguments but processes, and of what they mean, in their order.
func otherFlaws() []flaw {
	return slices.Concat(planFlaws(), valueFlaws(), logFlaws(), numberFlaws(), tableFlaws(), oddsFlaws(), matchFlaws())
}

func planFlaws() []flaw {
	of := flawOf("plan")
	l := []flaw{
		of("too short", func(q *question) { q.plan = q.plan[:2] }, api.ErrShape),
		of("too long", func(q *question) { q.plan = append(slices.Clone(q.plan), 0) }, api.ErrShape),
	}
	for i, clubs := range []int{3, 2, 2} {
		for _, club := range []int{-1, clubs, math.MinInt, math.MaxInt} {
			l = append(l, of(fmt.Sprint("the club ", club, " ", i), func(q *question) { q.plan[i] = club }, api.ErrUnknown))
		}
	}
	return l
}

func valueFlaws() []flaw {
	var l []flaw
	for _, values := range []struct {
		name string
		of   func(q *question) *[]api.Rat
	}{{"values", func(q *question) *[]api.Rat { return &q.values }}, {"least", func(q *question) *[]api.Rat { return &q.least }}} {
		of, list := flawOf(values.name), values.of
		l = append(l,
			of("too few", func(q *question) { *list(q) = (*list(q))[:2] }, api.ErrShape),
			of("too many", func(q *question) { *list(q) = append(slices.Clone(*list(q)), "0") }, api.ErrShape))
		for i := range 3 {
			l = append(l,
				of(fmt.Sprint("no number ", i), func(q *question) { (*list(q))[i] = "01" }, api.ErrForm),
				of(fmt.Sprint("a long number ", i), func(q *question) { (*list(q))[i] = api.Rat(nines(601)) }, api.ErrLarge),
				of(fmt.Sprint("a number that can be reduced ", i), func(q *question) { (*list(q))[i] = "6/4" }, api.ErrForm))
		}
	}
	return l
}

func logFlaws() []flaw {
	of := flawOf("log")
	l := []flaw{of("100", func(q *question) { q.log = make([]strategy.Stroke, 100) }, api.ErrMany)}
	for i := range 3 {
		add := func(what string, change func(s *strategy.Stroke), want api.Errno) {
			l = append(l, of(fmt.Sprint(what, " ", i), func(q *question) { change(&q.log[i]) }, want))
		}
		add("from -1", func(s *strategy.Stroke) { s.From = -1 }, api.ErrUnknown)
		add("from 3", func(s *strategy.Stroke) { s.From = 3 }, api.ErrUnknown)
		add("to -2", func(s *strategy.Stroke) { s.To = -2 }, api.ErrUnknown)
		add("to 3", func(s *strategy.Stroke) { s.To = 3 }, api.ErrUnknown)
		add("a penalty below", func(s *strategy.Stroke) { s.Penalty = -1 }, api.ErrRange)
		add("a penalty above", func(s *strategy.Stroke) { s.Penalty = 10 }, api.ErrRange)
		if i > 0 {
			add("from elsewhere", func(s *strategy.Stroke) { s.From, s.To, s.Penalty = 2, -1, 0 }, api.ErrOrder)
			add("from elsewhere without a move", func(s *strategy.Stroke) { s.From, s.To, s.Penalty = 2, 0, 0 }, api.ErrOrder)
		}
		add("no such place", func(s *strategy.Stroke) { s.To, s.Penalty = -1, 5 }, api.ErrNone)
		add("no such penalty", func(s *strategy.Stroke) { s.Penalty = 8 }, api.ErrNone)
	}
	return l
}

// numberFlaws are flaws of numbers of states, clubs and strokes, and of what plans and values mean.
func numberFlaws() []flaw {
	state, club, start, most := flawOf("state"), flawOf("club"), flawOf("start"), flawOf("most")
	var l []flaw
	for _, n := range []int{-1, 3, math.MinInt, math.MaxInt} {
		l = append(l,
			state(fmt.Sprint(n), func(q *question) { q.state = n }, api.ErrUnknown),
			start(fmt.Sprint(n), func(q *question) { q.start = n }, api.ErrUnknown))
	}
	for _, n := range []int{-1, 2, math.MinInt, math.MaxInt} {
		l = append(l, club(fmt.Sprint(n), func(q *question) { q.club = n }, api.ErrUnknown))
	}
	for _, n := range []int{-1, 61, math.MinInt, math.MaxInt} {
		l = append(l, most(fmt.Sprint(n), func(q *question) { q.most = n }, api.ErrRange))
	}
	return append(l,
		flaw{"open", "a plan without an end", func(q *question) { q.plan[0] = 1 }, api.ErrOpen},
		flaw{"end", "only one club", func(q *question) { q.hole.States[0].Clubs = q.hole.States[0].Clubs[1:2] }, api.ErrOpen},
		flaw{"end", "two states without an end", func(q *question) {
			q.hole.States[1].Clubs = q.hole.States[1].Clubs[1:]
			q.hole.States[0].Clubs[0].Moves[1].To = 0
			q.hole.States[0].Clubs = q.hole.States[0].Clubs[:2]
		}, api.ErrOpen},
		flaw{"proof", "a greater value", func(q *question) { q.least[0] = "4" }, api.ErrProof},
		flaw{"proof", "a lesser value", func(q *question) { q.least[1] = "131077/32768" }, api.ErrProof})
}

func tableFlaws() []flaw {
	var l []flaw
	for _, table := range []struct {
		name string
		of   func(q *question) *[]api.Chance
	}{{"a", func(q *question) *[]api.Chance { return &q.a }}, {"b", func(q *question) *[]api.Chance { return &q.b }}} {
		of, rows := flawOf(table.name), table.of
		l = append(l,
			of("no rows", func(q *question) { *rows(q) = nil }, api.ErrEmpty),
			of("65 rows", func(q *question) { *rows(q) = make([]api.Chance, 65) }, api.ErrMany))
		for i := range 2 {
			add := func(what string, change func(c *api.Chance), want api.Errno) {
				l = append(l, of(fmt.Sprint(what, " ", i), func(q *question) { change(&(*rows(q))[i]) }, want))
			}
			add("a value below", func(c *api.Chance) { c.Value = -1000000000 }, api.ErrRange)
			add("a value above", func(c *api.Chance) { c.Value = 1000000000 }, api.ErrRange)
			add("no weight", func(c *api.Chance) { c.Weight = "" }, api.ErrForm)
			add("a long weight", func(c *api.Chance) { c.Weight = api.Rat("1/" + nines(601)) }, api.ErrLarge)
			add("the weight 0", func(c *api.Chance) { c.Weight = "0" }, api.ErrRange)
			add("a third", func(c *api.Chance) { c.Weight = "1/3" }, api.ErrForm)
			if i > 0 {
				l = append(l, of("the same value", func(q *question) { (*rows(q))[i].Value = (*rows(q))[i-1].Value }, api.ErrOrder))
			}
		}
		l = append(l, of("another sum", func(q *question) { (*rows(q))[1].Weight = "1/8" }, api.ErrSum))
	}
	return l
}

// flawsOfOdds are the flaws of odds, in their order.
func flawsOfOdds(of func(name string, spoil func(q *question), want api.Errno) flaw, name string, o func(q *question) *strategy.Odds) []flaw {
	var l []flaw
	fields := []func(q *question) *api.Rat{
		func(q *question) *api.Rat { return &o(q).Won },
		func(q *question) *api.Rat { return &o(q).Halved },
		func(q *question) *api.Rat { return &o(q).Lost },
	}
	for i, field := range fields {
		l = append(l,
			of(fmt.Sprint("no number", name, i), func(q *question) { *field(q) = "0/1" }, api.ErrForm),
			of(fmt.Sprint("a long number", name, i), func(q *question) { *field(q) = api.Rat("1/" + nines(601)) }, api.ErrLarge))
	}
	for i, field := range fields {
		l = append(l, of(fmt.Sprint("a number below", name, i), func(q *question) { *field(q) = "-1/2" }, api.ErrRange))
	}
	l = append(l, of("1 and -1"+name, func(q *question) { *o(q) = odds("1 -1 1")[0] }, api.ErrRange))
	for i, field := range fields {
		l = append(l, of(fmt.Sprint("another sum", name, i), func(q *question) { *field(q) = "7/8" }, api.ErrSum))
	}
	return l
}

func oddsFlaws() []flaw {
	of := flawOf("list")
	l := slices.Concat(
		flawsOfOdds(flawOf("odds"), " ", func(q *question) *strategy.Odds { return &q.odds }),
		[]flaw{of("37", func(q *question) { q.list = make([]strategy.Odds, 37) }, api.ErrMany)})
	for i := range 3 {
		l = append(l, flawsOfOdds(of, fmt.Sprint(" ", i, " "), func(q *question) *strategy.Odds { return &q.list[i] })...)
	}
	return l
}

func matchFlaws() []flaw {
	of := flawOf("choices")
	l := []flaw{of("37", func(q *question) { q.choices = make([][]strategy.Odds, 37) }, api.ErrMany)}
	for i, odds := range fresh().choices {
		l = append(l,
			of(fmt.Sprint("no odds ", i), func(q *question) { q.choices[i] = nil }, api.ErrEmpty),
			of(fmt.Sprint("9 odds ", i), func(q *question) { q.choices[i] = make([]strategy.Odds, 9) }, api.ErrMany))
		for k := range odds {
			l = append(l, flawsOfOdds(of, fmt.Sprint(" ", i, " ", k, " "), func(q *question) *strategy.Odds { return &q.choices[i][k] })...)
		}
	}
	for _, n := range []int{-37, 37, math.MinInt, math.MaxInt} {
		l = append(l, flawOf("lead")(fmt.Sprint(n), func(q *question) { q.lead = n }, api.ErrRange))
	}
	return l
}

// A process at all limits, and what is just beyond them.
func TestP9_1Limits(t *testing.T) {
	random := rand.New(rand.NewSource(1))
	p := fullProcess(random)
	is(t, "24 states, 8 clubs, 32 moves", strategy.CheckProcess(p), api.OK)
	is(t, "a plan", strategy.CheckPlan(p, randomPlan(random, p)), api.OK)
	last := p.States[23]
	p.States[23].Name = strings.Repeat("Z", 24)
	is(t, "a name of 24 bytes", strategy.CheckProcess(p), api.OK)
	p.States[23].Name = "a_" + p.States[0].Clubs[0].Name
	p.States[23].Clubs[0].Name = p.States[22].Name
	is(t, "a club with the name of a state", strategy.CheckProcess(p), api.OK)
	p.States = append(p.States, strategy.State{Name: "z", Clubs: last.Clubs})
	is(t, "25 states", strategy.CheckProcess(p), api.ErrMany)
	p.States = p.States[:24]
	p.States[23].Clubs = append(p.States[23].Clubs, strategy.Club{Name: "z", Moves: last.Clubs[0].Moves})
	is(t, "9 clubs", strategy.CheckProcess(p), api.ErrMany)
	p.States[23].Clubs = p.States[23].Clubs[:8]
	moves := []strategy.Move{{To: 5, Penalty: 9, Chance: "1/2"}}
	for k := range 31 {
		moves = append(moves, strategy.Move{To: k%24 - 1, Penalty: k / 24, Chance: "1/64"})
	}
	p.States[23].Clubs[7].Moves = moves
	is(t, "31/64 and 1/2", strategy.CheckProcess(p), api.ErrSum)
	p.States[23].Clubs[7].Moves[1].Chance = "1/32"
	is(t, "the sum 1", strategy.CheckProcess(p), api.OK)
	p.States[23].Clubs[7].Moves[1].Chance = "1/64"
	p.States[23].Clubs[7].Moves = append(moves, strategy.Move{To: -1, Penalty: 9, Chance: "1/64"})
	is(t, "33 moves", strategy.CheckProcess(p), api.ErrMany)
	is(t, "the chance 1/65536", strategy.CheckProcess(process("a x=-1:1/65536,0:65535/65536")), api.OK)
	is(t, "the same place with other penalties", strategy.CheckProcess(process("a x=-1:1/2,-1+1:1/4,0+9:1/8,0:1/8")), api.OK)
	is(t, "the same moves of another club", strategy.CheckProcess(process("a x=-1:1 y=-1:1", "b x=-1:1")), api.OK)
}

func TestP9_1CheckPlan(t *testing.T) {
	is(t, "irons", strategy.CheckPlan(sample(), []int{1, 0, 0}), api.OK)
	is(t, "drives", strategy.CheckPlan(sample(), []int{0, 0, 0}), api.OK)
	is(t, "no club 2", strategy.CheckPlan(sample(), []int{2, 0, 0}), api.ErrUnknown)
	is(t, "nothing", strategy.CheckPlan(sample(), nil), api.ErrShape)
	is(t, "no process", strategy.CheckPlan(strategy.Process{}, nil), api.ErrEmpty)
}

func TestP9_4CheckLog(t *testing.T) {
	for words, want := range map[string]api.Errno{
		"":                    api.OK,
		"0>1 1>2 2>-1":        api.OK,
		"0>2":                 api.OK,
		"2>2 2>2 2>2":         api.OK,
		"1>1+1 1>1+1 1>-1":    api.OK,
		"1>1":                 api.ErrNone,
		"0>-1":                api.ErrNone,
		"0>2+1":               api.ErrNone,
		"0>1 2>-1":            api.ErrOrder,
		"2>-1 2>-1":           api.ErrOrder,
		"2>-1 -1>-1":          api.ErrUnknown,
		"0>1 1>3":             api.ErrUnknown,
		"0>1 2>2+10":          api.ErrRange,
		"0>1 1>1+2 5>5":       api.ErrNone,
		"0>1 1>2 2>-1 0>1":    api.ErrOrder,
		"2>-1 0>-1":           api.ErrOrder,
		"0>1 1>1+1 1>-1 1>-1": api.ErrOrder,
	} {
		is(t, words, strategy.CheckLog(sample(), strokes(words)), want)
	}
	many := slices.Repeat(strokes("2>2"), 99)
	is(t, "99 strokes", strategy.CheckLog(sample(), many), api.OK)
	is(t, "100 strokes", strategy.CheckLog(sample(), append(many, many[0])), api.ErrMany)
	is(t, "the second club", strategy.CheckLog(process("a x=-1:1 y=0+3:1/2,-1:1/2"), strokes("0>0+3 0>-1")), api.OK)
}

func TestP9_5CheckOdds(t *testing.T) {
	for words, want := range map[string]api.Errno{
		"1/2 1/2 0":     api.OK,
		"0 0 1":         api.OK,
		"1/3 1/5 7/15":  api.OK,
		"1 0 0":         api.OK,
		"1 1 -1":        api.ErrRange,
		"-1/3 1/3 1":    api.ErrRange,
		"1/2 1/2 1/2":   api.ErrSum,
		"0 0 0":         api.ErrSum,
		"1/3 1/3 1/4":   api.ErrSum,
		"-1 x 2":        api.ErrForm,
		"2 -1 00":       api.ErrForm,
		"2 2/4 -1":      api.ErrForm,
		"1/2 1/2 0/1":   api.ErrForm,
		"999999999 1 1": api.ErrSum,
	} {
		is(t, words, strategy.CheckOdds(odds(words)[0]), want)
	}
	is(t, "no numbers", strategy.CheckOdds(strategy.Odds{}), api.ErrForm)
	small := api.Rat("1/1" + strings.Repeat("0", 599))
	rest := api.Rat(nines(599) + "/1" + strings.Repeat("0", 599))
	is(t, "600 digits", strategy.CheckOdds(strategy.Odds{Won: small, Halved: "0", Lost: rest}), api.OK)
	is(t, "601 digits", strategy.CheckOdds(strategy.Odds{Won: "2", Halved: "-1", Lost: small + "0"}), api.ErrLarge)
}
