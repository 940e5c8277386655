package course_test

import (
	"math"
	"math/rand"
	"slices"
	"testing"

	"niblick/api"
	"niblick/course"
)

// chain returns the conditions of the chapter's example with another last one.
func chain(last int) []course.Rule {
	return []course.Rule{{From: 0, To: 1, Least: 3}, {From: 1, To: 2, Least: 2}, {From: 2, To: 0, Least: last}}
}

// plan has the arguments of the functions of conditions.
type plan struct {
	jobs  int
	l     []course.Rule
	cycle []int
}

var planDefects = []defect[plan]{
	{"too many jobs", func(p *plan) { p.jobs = 25 }, api.ErrRange},
	{"257 conditions", func(p *plan) { p.l = append(p.l, make([]course.Rule, 254)...) }, api.ErrMany},
	{"an unknown job", func(p *plan) { p.l[0].From = -1 }, api.ErrUnknown},
	{"a second condition too far away", func(p *plan) { p.l[1].Least = 10001 }, api.ErrRange},
	{"another unknown job", func(p *plan) { p.l[2].To = 24 }, api.ErrUnknown},
}

func checkPlanError(t *testing.T, p plan, want api.Errno) {
	t.Helper()
	days, e := course.Earliest(p.jobs, p.l)
	fails(t, "Earliest", days, e, want)
	cycle, e := course.Conflict(p.jobs, p.l)
	fails(t, "Conflict", cycle, e, want)
	is(t, "CheckConflict", course.CheckConflict(p.jobs, p.l, p.cycle), want)
}

func TestP2_7ErrorsOfConditions(t *testing.T) {
	inOrder(t, func() plan { return plan{24, chain(-4), []int{0, 1, 2}} }, checkPlanError, planDefects)
	inOrder(t, func() plan { return plan{24, chain(-4), nil} }, checkPlanError, planDefects)
	for _, jobs := range []int{0, -1, 25, math.MinInt, math.MaxInt} {
		checkPlanError(t, plan{jobs, nil, nil}, api.ErrRange)
		checkPlanError(t, plan{jobs, make([]course.Rule, 257), nil}, api.ErrRange)
	}
	for _, x := range []struct {
		rule course.Rule
		want api.Errno
	}{
		{course.Rule{From: 2, To: 0}, api.ErrUnknown},
		{course.Rule{From: 0, To: 2}, api.ErrUnknown},
		{course.Rule{From: -1, To: 0}, api.ErrUnknown},
		{course.Rule{From: 0, To: -1}, api.ErrUnknown},
		{course.Rule{From: math.MinInt, To: math.MaxInt}, api.ErrUnknown},
		{course.Rule{From: 2, To: 0, Least: 10001}, api.ErrUnknown},
		{course.Rule{From: 0, To: 2, Least: -10001}, api.ErrUnknown},
		{course.Rule{From: 0, To: 1, Least: 10001}, api.ErrRange},
		{course.Rule{From: 0, To: 1, Least: -10001}, api.ErrRange},
		{course.Rule{From: 0, To: 1, Least: math.MaxInt}, api.ErrRange},
		{course.Rule{From: 0, To: 1, Least: math.MinInt}, api.ErrRange},
	} {
		checkPlanError(t, plan{2, []course.Rule{x.rule}, []int{0}}, x.want)
		checkPlanError(t, plan{2, []course.Rule{{From: 0, To: 1, Least: 1}, x.rule, {From: 9, To: 9}}, []int{7}}, x.want)
	}
}

func TestP2_7Earliest(t *testing.T) {
	for _, x := range []struct {
		name string
		jobs int
		l    []course.Rule
		want []int
	}{
		{"the example", 3, chain(-6), []int{0, 3, 5}},
		{"a tight cycle", 3, chain(-5), []int{0, 3, 5}},
		{"no conditions", 4, nil, []int{0, 0, 0, 0}},
		{"one job", 1, []course.Rule{{From: 0, To: 0, Least: 0}, {From: 0, To: 0, Least: -10000}}, []int{0}},
		{"the least as it may be", 2, []course.Rule{{From: 1, To: 0, Least: 10000}, {From: 0, To: 1, Least: -10000}}, []int{10000, 0}},
		{"no days before 0", 2, []course.Rule{{From: 0, To: 1, Least: -5}}, []int{0, 0}},
		{"the later of two ways", 4, []course.Rule{{From: 0, To: 3, Least: 4}, {From: 0, To: 1, Least: 3}, {From: 1, To: 3, Least: 2}, {From: 2, To: 3, Least: 1}}, []int{0, 3, 0, 5}},
		{"before another job", 3, []course.Rule{{From: 0, To: 1, Least: 7}, {From: 1, To: 2, Least: -3}}, []int{0, 7, 4}},
		{"a job without a condition", 3, []course.Rule{{From: 2, To: 0, Least: 1}}, []int{1, 0, 0}},
		{"a condition twice", 2, []course.Rule{{From: 0, To: 1, Least: 1}, {From: 0, To: 1, Least: 2}, {From: 0, To: 1, Least: 1}}, []int{0, 2}},
	} {
		days, e := course.Earliest(x.jobs, x.l)
		gives(t, x.name, days, e, x.want)
		cycle, e := course.Conflict(x.jobs, x.l)
		fails(t, x.name, cycle, e, api.ErrNone)
	}
}

// Conditions that are named from the last job to the first one take the longest to have their effect.
func TestP2_7EarliestAtTheLimits(t *testing.T) {
	var l []course.Rule
	want := make([]int, 24)
	for job := 22; job >= 0; job-- {
		l = append(l, course.Rule{From: job, To: job + 1, Least: 10000})
	}
	for job := range want {
		want[job] = 10000 * job
	}
	days, e := course.Earliest(24, l)
	gives(t, "24 jobs", days, e, want)
	for len(l) < 256 {
		l = append(l, course.Rule{From: 23, To: 0, Least: -10000})
	}
	_, e = course.Earliest(24, l)
	is(t, "256 conditions", e, api.ErrInfeasible)
	cycle, e := course.Conflict(24, l)
	is(t, "256 conditions", e, api.OK)
	is(t, "24 conditions of 256", course.CheckConflict(24, l, cycle), api.OK)
	for i := 23; i < len(l); i++ {
		l[i].From = 1
	}
	days, e = course.Earliest(24, l)
	gives(t, "a tight cycle", days, e, want)
}

func TestP2_7Conflict(t *testing.T) {
	for _, x := range []struct {
		name string
		jobs int
		l    []course.Rule
	}{
		{"the example", 3, chain(-4)},
		{"one job", 1, []course.Rule{{From: 0, To: 0, Least: 1}}},
		{"a job after itself", 3, []course.Rule{{From: 0, To: 1, Least: 5}, {From: 2, To: 2, Least: 1}}},
		{"a job after the contradiction", 4, []course.Rule{{From: 0, To: 3, Least: 9}, {From: 0, To: 1, Least: 1}, {From: 1, To: 0, Least: 0}, {From: 3, To: 2, Least: 2}}},
		{"one of two conditions of the same jobs", 2, []course.Rule{{From: 0, To: 1, Least: 1}, {From: 1, To: 0, Least: -3}, {From: 1, To: 0, Least: 0}}},
		{"by one day", 2, []course.Rule{{From: 0, To: 1, Least: -9999}, {From: 1, To: 0, Least: 10000}}},
		{"a sum of 1 with days below 0 on the way", 3, []course.Rule{{From: 0, To: 1, Least: -50}, {From: 1, To: 2, Least: -50}, {From: 2, To: 0, Least: 101}}},
	} {
		days, e := course.Earliest(x.jobs, x.l)
		fails(t, x.name, days, e, api.ErrInfeasible)
		cycle, e := course.Conflict(x.jobs, x.l)
		is(t, x.name, e, api.OK)
		is(t, x.name, proves(x.l, cycle), true)
		is(t, x.name, course.CheckConflict(x.jobs, x.l, cycle), api.OK)
	}
}

// proves follows the definitions of a cycle and of a contradiction.
func proves(l []course.Rule, cycle []int) bool {
	sum := 0
	for i, n := range cycle {
		if l[n].To != l[cycle[(i+1)%len(cycle)]].From {
			return false
		}
		sum += l[n].Least
	}
	return len(cycle) > 0 && sum > 0
}

func TestP2_7CheckConflict(t *testing.T) {
	l := append(chain(-4), course.Rule{From: 1, To: 1, Least: 1}, course.Rule{From: 0, To: 0, Least: 0}, course.Rule{From: 1, To: 0, Least: -3})
	long := slices.Repeat([]int{3}, 257)
	for _, x := range []struct {
		name  string
		cycle []int
		want  api.Errno
	}{
		{"the example", []int{0, 1, 2}, api.OK},
		{"from another condition on", []int{1, 2, 0}, api.OK},
		{"from the last condition on", []int{2, 0, 1}, api.OK},
		{"twice round", []int{0, 1, 2, 0, 1, 2}, api.OK},
		{"a job after itself", []int{3}, api.OK},
		{"a job after itself on the way", []int{0, 3, 1, 2}, api.OK},
		{"a cycle in a cycle", []int{0, 3, 3, 5}, api.OK},
		{"256 numbers", long[:256], api.OK},
		{"nil", nil, api.ErrEmpty},
		{"empty", []int{}, api.ErrEmpty},
		{"257 numbers", long, api.ErrMany},
		{"257 numbers, one of them unknown", append(slices.Clone(long[:256]), -1), api.ErrMany},
		{"an unknown condition", []int{0, 1, 6}, api.ErrUnknown},
		{"a number below 0", []int{-1, 0}, api.ErrUnknown},
		{"an unknown condition of no cycle", []int{0, 0, 6}, api.ErrUnknown},
		{"very unknown conditions", []int{math.MinInt, math.MaxInt}, api.ErrUnknown},
		{"the wrong way round", []int{0, 2, 1}, api.ErrProof},
		{"no way back", []int{0, 1}, api.ErrProof},
		{"no way on", []int{1, 0}, api.ErrProof},
		{"one condition of two jobs", []int{0}, api.ErrProof},
		{"no way from the first one", []int{3, 1, 2}, api.ErrProof},
		{"a sum of 0", []int{4}, api.ErrProof},
		{"a sum of 0 of two conditions", []int{0, 5}, api.ErrProof},
		{"a break in the middle", []int{0, 1, 1, 2}, api.ErrProof},
	} {
		is(t, x.name, course.CheckConflict(3, l, x.cycle), x.want)
	}
	is(t, "a sum of 0", course.CheckConflict(3, chain(-5), []int{0, 1, 2}), api.ErrProof)
	is(t, "a sum below 0", course.CheckConflict(3, chain(-6), []int{0, 1, 2}), api.ErrProof)
	is(t, "no conditions", course.CheckConflict(3, nil, []int{0}), api.ErrUnknown)
	is(t, "no conditions and no cycle", course.CheckConflict(3, nil, nil), api.ErrEmpty)
}

// leastDays finds the least days by the longest chains between all jobs; there are none if a chain leads from a job to a later day of its own.
func leastDays(jobs int, l []course.Rule) ([]int, bool) {
	const none = -1 << 40
	longest := make([][]int, jobs)
	for i := range longest {
		longest[i] = slices.Repeat([]int{none}, jobs)
		longest[i][i] = 0
	}
	for _, rule := range l {
		longest[rule.From][rule.To] = max(longest[rule.From][rule.To], rule.Least)
	}
	for k := range jobs {
		for i := range jobs {
			for j := range jobs {
				if longest[i][k] > none && longest[k][j] > none {
					longest[i][j] = max(longest[i][j], longest[i][k]+longest[k][j])
				}
			}
			if longest[i][i] > 0 {
				return nil, false
			}
		}
	}
	days := make([]int, jobs)
	for j := range jobs {
		for i := range jobs {
			days[j] = max(days[j], longest[i][j])
		}
	}
	return days, true
}

func TestP2_7RandomConditions(t *testing.T) {
	random := rand.New(rand.NewSource(12))
	possible := 0
	for i := range 5000 {
		jobs := 1 + random.Intn(24)
		l := make([]course.Rule, random.Intn(2*jobs+2))
		for i := range l {
			l[i] = course.Rule{From: random.Intn(jobs), To: random.Intn(jobs), Least: random.Intn(20) - 14}
			if random.Intn(3) == 0 {
				// Forwards, so that long chains are possible.
				l[i] = course.Rule{From: min(l[i].From, l[i].To), To: max(l[i].From, l[i].To), Least: random.Intn(10)}
				if l[i].From == l[i].To {
					l[i].Least = -i % 3
				}
			}
		}
		want, ok := leastDays(jobs, l)
		days, e := course.Earliest(jobs, l)
		cycle, f := course.Conflict(jobs, l)
		if ok {
			possible++
			gives(t, "Earliest", days, e, want)
			fails(t, "Conflict", cycle, f, api.ErrNone)
			continue
		}
		fails(t, "Earliest", days, e, api.ErrInfeasible)
		is(t, "Conflict", f, api.OK)
		if !proves(l, cycle) || len(cycle) > api.MaxList {
			t.Fatalf("%d: %v is no contradiction of %v", i, cycle, l)
		}
		is(t, "CheckConflict", course.CheckConflict(jobs, l, cycle), api.OK)
	}
	if possible < 1000 || possible > 4000 {
		t.Errorf("%d of 5000 have days", possible)
	}
}

func TestP2_7CheckRandomCycles(t *testing.T) {
	random := rand.New(rand.NewSource(13))
	right := 0
	for range 20000 {
		l := make([]course.Rule, 1+random.Intn(6))
		for i := range l {
			l[i] = course.Rule{From: random.Intn(3), To: random.Intn(3), Least: random.Intn(9) - 4}
		}
		cycle := make([]int, 1+random.Intn(4))
		for i := range cycle {
			cycle[i] = random.Intn(len(l))
		}
		want := api.ErrProof
		if proves(l, cycle) {
			want = api.OK
			right++
		}
		is(t, "CheckConflict", course.CheckConflict(3, l, cycle), want)
	}
	if right < 500 {
		t.Errorf("only %d contradictions", right)
	}
}

func TestP2_7Rotation(t *testing.T) {
	l := []api.Place{at(0, 0), at(10, 0), at(3, 4)}
	for _, x := range []struct {
		name         string
		l            []api.Place
		radius, days int
		want         []int
	}{
		{"the example", l, 5, 4, []int{0, 1, 0, 1}},
		{"less than the distance", l, 4, 5, []int{0, 1, 2, 0, 1}},
		{"all within the radius", l, 20, 3, []int{0, 0, 0}},
		{"no days", l, 5, 0, nil},
		{"only the own place", l, 0, 7, []int{0, 1, 2, 0, 1, 2, 0}},
		{"one position", l[:1], 0, 3, []int{0, 0, 0}},
		{"in the middle of all", []api.Place{at(5, 0), at(0, 0), at(10, 0)}, 5, 3, []int{0, 0, 0}},
		{"never in the middle", []api.Place{at(0, 0), at(5, 0), at(10, 0)}, 5, 6, []int{0, 2, 0, 2, 0, 2}},
		{"at the end of the radius", []api.Place{at(-1000000, 0), at(0, 0), at(1, 0)}, 1000000, 4, []int{0, 2, 0, 2}},
	} {
		used, e := course.Rotation(x.l, x.radius, x.days)
		gives(t, x.name, used, e, x.want)
	}
	var most []api.Place
	for i := range 16 {
		most = append(most, at(1000000-i, -1000000))
	}
	used, e := course.Rotation(most, 0, 366)
	is(t, "366 days", e, api.OK)
	is(t, "366 days", len(used), 366)
	for day, n := range used {
		is(t, "each one in turn", n, day%16)
	}
}

func TestP2_7RotationByDefinition(t *testing.T) {
	random := rand.New(rand.NewSource(14))
	for range 500 {
		var l []api.Place
		for range 1 + random.Intn(16) {
			if p := randomPlace(random, 8); !slices.Contains(l, p) {
				l = append(l, p)
			}
		}
		radius, days := random.Intn(12), random.Intn(60)
		used, e := course.Rotation(l, radius, days)
		is(t, "Rotation", e, api.OK)
		is(t, "days", len(used), days)
		for day, n := range used {
			worn := make([]int, len(l))
			for i, p := range l {
				for _, earlier := range used[:day] {
					if q := l[earlier]; (p.X-q.X)*(p.X-q.X)+(p.Y-q.Y)*(p.Y-q.Y) <= radius*radius {
						worn[i]++
					}
				}
			}
			is(t, "the least worn position", n, slices.Index(worn, slices.Min(worn)))
		}
	}
}

func TestP2_7RotationErrors(t *testing.T) {
	type arguments struct {
		l            []api.Place
		radius, days int
	}
	positions := func() []api.Place { return []api.Place{at(0, 0), at(10, 0), at(3, 4), at(5, 6)} }
	check := func(t *testing.T, x arguments, want api.Errno) {
		t.Helper()
		used, e := course.Rotation(x.l, x.radius, x.days)
		fails(t, "Rotation", used, e, want)
	}
	inOrder(t, func() arguments { return arguments{positions(), 5, 4} }, check, []defect[arguments]{
		{"17 positions", func(x *arguments) { x.l = append(x.l, make([]api.Place, 13)...) }, api.ErrMany},
		{"a position twice", func(x *arguments) { x.l[1] = x.l[0] }, api.ErrTwice},
		{"a position far", func(x *arguments) { x.l[2] = far }, api.ErrRange},
		{"the last position twice", func(x *arguments) { x.l[3] = at(0, 0) }, api.ErrTwice},
		{"the radius", func(x *arguments) { x.radius = -1 }, api.ErrRange},
		{"the days", func(x *arguments) { x.days = 367 }, api.ErrRange},
	})
	for _, x := range []arguments{{nil, -1, -1}, {[]api.Place{}, 1, 1}} {
		check(t, x, api.ErrEmpty)
	}
	check(t, arguments{slices.Repeat([]api.Place{far}, 17), -1, -1}, api.ErrMany)
	check(t, arguments{[]api.Place{far, far}, 1, 1}, api.ErrRange)
	check(t, arguments{[]api.Place{at(-1000001, 0)}, 1, 1}, api.ErrRange)
	check(t, arguments{[]api.Place{at(1, 1), at(2, 2), at(1, 1), far}, -1, 1}, api.ErrTwice)
	for _, n := range []int{-1, 1000001, math.MinInt, math.MaxInt} {
		check(t, arguments{positions(), n, 4}, api.ErrRange)
		check(t, arguments{positions(), 5, n}, api.ErrRange)
	}
	check(t, arguments{positions(), 5, 367}, api.ErrRange)
	used, e := course.Rotation(positions(), 1000000, 366)
	gives(t, "at the limits", used, e, make([]int, 366))
}

func TestP2_7Rounds(t *testing.T) {
	for _, x := range []struct {
		flows []int
		limit int
		want  []int
	}{
		{[]int{5, 4, 3}, 8, []int{0, 1, 0}},
		{[]int{4, 4, 4}, 8, []int{0, 0, 1}},
		{[]int{8}, 8, []int{0}},
		{[]int{1}, 1, []int{0}},
		{[]int{3, 3, 2, 2, 2}, 6, []int{0, 0, 1, 1, 1}},
		{[]int{4, 2, 5, 1}, 6, []int{0, 0, 1, 1}},
		{[]int{2, 2, 3, 5, 4, 1, 1}, 9, []int{0, 0, 0, 1, 1, 0, 0}},
		{[]int{2, 5, 3, 4}, 7, []int{0, 0, 1, 1}},
		{[]int{2, 4, 5, 3}, 7, []int{0, 1, 0, 1}},
		{[]int{1, 6, 6, 5}, 6, []int{0, 1, 2, 0}},
		{[]int{1, 1, 1, 1, 1, 1, 1, 1}, 1, []int{0, 1, 2, 3, 4, 5, 6, 7}},
		{[]int{1, 1, 1, 1, 1, 1, 1, 1}, 8, []int{0, 0, 0, 0, 0, 0, 0, 0}},
		{[]int{5, 5, 5, 5, 5, 5, 5, 5}, 9, []int{0, 1, 2, 3, 4, 5, 6, 7}},
		{[]int{999999999, 999999998, 1, 999999999}, 999999999, []int{0, 1, 1, 2}},
	} {
		rounds, e := course.Rounds(x.flows, x.limit)
		gives(t, "Rounds", rounds, e, x.want)
	}
}

// firstRounds goes through all lists in their order, with more and more rounds.
func firstRounds(flows []int, limit int) []int {
	for count := 1; ; count++ {
		l := make([]int, len(flows))
		for {
			sums := make([]int, count)
			for i, round := range l {
				sums[round] += flows[i]
			}
			if slices.Max(sums) <= limit {
				return l
			}
			i := len(l) - 1
			for i >= 0 && l[i] == count-1 {
				l[i] = 0
				i--
			}
			if i < 0 {
				break
			}
			l[i]++
		}
	}
}

func TestP2_7RoundsByDefinition(t *testing.T) {
	random := rand.New(rand.NewSource(15))
	for i := range 3000 {
		limit := 1 + random.Intn(12)
		flows := make([]int, 1+i%6)
		for j := range flows {
			flows[j] = 1 + random.Intn(limit)
		}
		rounds, e := course.Rounds(flows, limit)
		gives(t, "Rounds", rounds, e, firstRounds(flows, limit))
	}
	for range 20 {
		flows := make([]int, 8)
		for j := range flows {
			flows[j] = 3 + random.Intn(6)
		}
		rounds, e := course.Rounds(flows, 14)
		gives(t, "eight stations", rounds, e, firstRounds(flows, 14))
	}
}

func TestP2_7RoundsErrors(t *testing.T) {
	for _, x := range []struct {
		name  string
		flows []int
		limit int
		want  api.Errno
	}{
		{"nil", nil, 8, api.ErrEmpty},
		{"empty, with a wrong limit", []int{}, -1, api.ErrEmpty},
		{"nine stations", slices.Repeat([]int{1}, 9), 8, api.ErrLimit},
		{"nine stations with wrong flows and limit", make([]int, 9), 0, api.ErrLimit},
		{"no limit", []int{1}, 0, api.ErrRange},
		{"a limit below 0", []int{1}, -1, api.ErrRange},
		{"a limit too great", []int{1}, 1000000000, api.ErrRange},
		{"the greatest limit", []int{1}, math.MaxInt, api.ErrRange},
		{"no flow", []int{1, 0}, 8, api.ErrRange},
		{"a flow below 0", []int{-1, 1}, 8, api.ErrRange},
		{"the least flow", []int{math.MinInt}, 8, api.ErrRange},
		{"a flow above the limit", []int{8, 9}, 8, api.ErrRange},
		{"the greatest flow", []int{1, 1, math.MaxInt}, 999999999, api.ErrRange},
	} {
		rounds, e := course.Rounds(x.flows, x.limit)
		fails(t, x.name, rounds, e, x.want)
	}
}
