package sheet_test

import (
	"fmt"
	"math"
	"slices"
	"strings"
	"testing"

	"niblick/api"
	"niblick/sheet"
)

// flawOf makes flaws of one kind of argument.
func flawOf(of string) func(name string, spoil func(q *question), want api.Errno) flaw {
	return func(name string, spoil func(q *question), want api.Errno) flaw {
		return flaw{of, name + " of " + of, spoil, want}
	}
}

func slotFlaws() []flaw {
	of := flawOf("slots")
	l := []flaw{of("25", func(q *question) { q.slots = make([]sheet.Slot, 25) }, api.ErrMany)}
	for i := range 3 {
		add := func(name string, change func(s *sheet.Slot), want api.Errno) {
			l = append(l, of(fmt.Sprint(name, " ", i), func(q *question) { change(&q.slots[i]) }, want))
		}
		add("a minute below", func(s *sheet.Slot) { s.Minute = -1 }, api.ErrRange)
		add("a minute above", func(s *sheet.Slot) { s.Minute = 10001 }, api.ErrRange)
		add("a hole below", func(s *sheet.Slot) { s.Hole = 0 }, api.ErrRange)
		add("a hole above", func(s *sheet.Slot) { s.Hole = 37 }, api.ErrRange)
		add("places below", func(s *sheet.Slot) { s.Places = 0 }, api.ErrRange)
		add("places above", func(s *sheet.Slot) { s.Places = 9 }, api.ErrRange)
		if i > 0 {
			l = append(l, of(fmt.Sprint("the same again ", i), func(q *question) {
				q.slots[i].Minute, q.slots[i].Hole = q.slots[i-1].Minute, q.slots[i-1].Hole
			}, api.ErrOrder))
		}
	}
	return l
}

func requestFlaws(name string, list func(q *question) *[]sheet.Request) []flaw {
	of := flawOf(name)
	l := []flaw{of("25", func(q *question) { *list(q) = make([]sheet.Request, 25) }, api.ErrMany)}
	for i := range 3 {
		add := func(name string, change func(q *sheet.Request), want api.Errno) {
			l = append(l, of(fmt.Sprint(name, " ", i), func(q *question) { change(&(*list(q))[i]) }, want))
		}
		add("no name", func(q *sheet.Request) { q.Name = "1" }, api.ErrName)
		if i > 0 {
			l = append(l, of(fmt.Sprint("a name twice ", i), func(q *question) { (*list(q))[i].Name = (*list(q))[0].Name }, api.ErrTwice))
		}
		add("a wish for no slot", func(q *sheet.Request) { q.Wishes = []sheet.Wish{{Slot: 3}, {Slot: 3}} }, api.ErrUnknown)
		add("a wish before a wish", func(q *sheet.Request) { q.Wishes = []sheet.Wish{{Slot: 1, Weight: 1}, {Slot: 0, Weight: 0}} }, api.ErrOrder)
		add("a weight below", func(q *sheet.Request) { q.Wishes = []sheet.Wish{{Slot: 1, Weight: 0}, {Slot: 1, Weight: 1}} }, api.ErrRange)
		add("a weight above", func(q *sheet.Request) { q.Wishes = []sheet.Wish{{Slot: 1, Weight: 10001}, {Slot: 3, Weight: 1}} }, api.ErrRange)
	}
	return l
}

func allRequestFlaws() []flaw {
	return slices.Concat(
		requestFlaws("requests", func(q *question) *[]sheet.Request { return &q.requests }),
		requestFlaws("party", func(q *question) *[]sheet.Request { return &q.party }),
		requestFlaws("crowd", func(q *question) *[]sheet.Request { return &q.crowd }))
}

// assignmentFlaws are flaws of assignments and withdrawals, of prices, and of what requests want, in their order.
func assignmentFlaws() []flaw {
	of, withdrawal, prices := flawOf("assignment"), flawOf("withdrawal"), flawOf("prices")
	many := requests(strings.Fields("a! b! c! d! e! f! g! h! i! j! k! l! m!")...)
	none := requests("a", "b", "c! 0:1")
	return []flaw{
		of("a number too few", func(q *question) { q.assignment = q.assignment[:2] }, api.ErrShape),
		of("a number too many", func(q *question) { q.assignment = append(q.assignment, -2) }, api.ErrShape),
		of("no slot", func(q *question) { q.assignment[0] = 3 }, api.ErrUnknown),
		of("a guaranteed request", func(q *question) { q.assignment[1] = -1 }, api.ErrInfeasible),
		of("no wish", func(q *question) { q.assignment[2] = 2 }, api.ErrUnknown),
		of("one place for two", func(q *question) { q.assignment[0], q.assignment[2] = 1, 1 }, api.ErrConflict),
		withdrawal("no request", func(q *question) { q.request = 3 }, api.ErrUnknown),
		withdrawal("a request without a slot", func(q *question) { q.request, q.assignment[0] = 0, -1 }, api.ErrState),
		prices("the value", func(q *question) { q.value = 1000000000 }, api.ErrRange),
		prices("too few for requests", func(q *question) { q.prices.Requests = []int{1000000000} }, api.ErrShape),
		prices("too many for slots", func(q *question) { q.prices.Slots = []int{0, 0, 0, 1000000000} }, api.ErrShape),
		prices("a great one of a request", func(q *question) { q.prices.Requests[1] = 1000000000 }, api.ErrRange),
		prices("a small one of a slot", func(q *question) { q.prices.Slots[2] = -1000000000 }, api.ErrRange),
		prices("another value", func(q *question) { q.value-- }, api.ErrProof),
		{"feasible", "two for one place", func(q *question) { q.party[0], q.party[1] = requests("ann! 1:1")[0], requests("ben! 1:1")[0] }, api.ErrInfeasible},
		{"sure", "13 guaranteed requests", func(q *question) { q.crowd = slices.Clone(many) }, api.ErrLimit},
		{"sure", "enough places", func(q *question) { q.crowd = slices.Clone(none) }, api.ErrNone},
	}
}

// startFlaws are flaws of starting times, in their order.
func startFlaws() []flaw {
	of, shotgun, light := flawOf("starts"), flawOf("shotgun"), flawOf("light")
	return []flaw{
		of("the first minute", func(q *question) { q.first = -1 }, api.ErrRange),
		of("a great first minute", func(q *question) { q.first = 10001 }, api.ErrRange),
		of("the last minute", func(q *question) { q.last = 10001 }, api.ErrRange),
		of("a small last minute", func(q *question) { q.last = -1 }, api.ErrRange),
		of("the interval", func(q *question) { q.interval = 0 }, api.ErrRange),
		of("a great interval", func(q *question) { q.interval = 10001 }, api.ErrRange),
		of("the places", func(q *question) { q.places = 9 }, api.ErrRange),
		of("no places", func(q *question) { q.places = 0 }, api.ErrRange),
		of("the order", func(q *question) { q.first, q.last = 8001, 8000 }, api.ErrOrder),
		of("many slots", func(q *question) { q.interval = 400 }, api.ErrMany),
		shotgun("the minute", func(q *question) { q.minute = 10001 }, api.ErrRange),
		shotgun("a small minute", func(q *question) { q.minute = -1 }, api.ErrRange),
		shotgun("the holes", func(q *question) { q.holes = 25 }, api.ErrRange),
		shotgun("no holes", func(q *question) { q.holes = 0 }, api.ErrRange),
		shotgun("the places", func(q *question) { q.each = 9 }, api.ErrRange),
		shotgun("no places", func(q *question) { q.each = 0 }, api.ErrRange),
		light("the sunrise", func(q *question) { q.sunrise = -1 }, api.ErrRange),
		light("a late sunrise", func(q *question) { q.sunrise = 10001 }, api.ErrRange),
		light("the sunset", func(q *question) { q.sunset = -1 }, api.ErrRange),
		light("a late sunset", func(q *question) { q.sunset = 10001 }, api.ErrRange),
		light("the round", func(q *question) { q.round = -1 }, api.ErrRange),
		light("a long round", func(q *question) { q.round = 10001 }, api.ErrRange),
	}
}

// paceFlaws are flaws of a pace, and of the minutes of holes, in their order.
func paceFlaws() []flaw {
	of, minutes := flawOf("pace"), flawOf("minutes")
	l := []flaw{
		of("nobody", func(q *question) { q.pace.Ready = nil }, api.ErrEmpty),
		of("25 groups", func(q *question) { q.pace.Ready = slices.Repeat([]int{-1}, 25) }, api.ErrMany),
		of("a minute below", func(q *question) { q.pace.Ready[0] = -1 }, api.ErrRange),
		of("a minute above", func(q *question) { q.pace.Ready[2] = 10001 }, api.ErrRange),
		of("two rows", func(q *question) { q.pace.Minutes = q.pace.Minutes[:2] }, api.ErrShape),
		of("four rows", func(q *question) { q.pace.Minutes = append(q.pace.Minutes, nil) }, api.ErrShape),
		of("no holes", func(q *question) { q.pace.Holds = nil }, api.ErrEmpty),
		of("37 holes", func(q *question) { q.pace.Holds = make([]int, 37) }, api.ErrMany),
		of("holding none", func(q *question) { q.pace.Holds[0] = 0 }, api.ErrRange),
		of("holding 9", func(q *question) { q.pace.Holds[2] = 9 }, api.ErrRange),
	}
	for g := range 2 {
		l = append(l,
			of(fmt.Sprint("a short row ", g), func(q *question) { q.pace.Minutes[g] = []int{0, 0} }, api.ErrShape),
			of(fmt.Sprint("a long row ", g), func(q *question) { q.pace.Minutes[g] = []int{0, 0, 0, 0} }, api.ErrShape),
			of(fmt.Sprint("no minutes ", g), func(q *question) { q.pace.Minutes[g] = []int{1, 1, 0} }, api.ErrRange),
			of(fmt.Sprint("many minutes ", g), func(q *question) { q.pace.Minutes[g] = []int{10001, 1, 1} }, api.ErrRange))
	}
	return append(l,
		minutes("none", func(q *question) { q.minutes = nil }, api.ErrEmpty),
		minutes("25", func(q *question) { q.minutes = make([]int, 25) }, api.ErrMany),
		minutes("0", func(q *question) { q.minutes[1] = 0 }, api.ErrRange),
		minutes("10001", func(q *question) { q.minutes[2] = 10001 }, api.ErrRange))
}

func oneMatrixFlaws(name string, m func(q *question) *[][]int) []flaw {
	of := flawOf(name)
	l := []flaw{of("25 rows", func(q *question) { *m(q) = make([][]int, 25) }, api.ErrMany)}
	for i := range 3 {
		l = append(l,
			of(fmt.Sprint("a short row ", i), func(q *question) { (*m(q))[i] = []int{1000000000, 0} }, api.ErrShape),
			of(fmt.Sprint("a long row ", i), func(q *question) { (*m(q))[i] = []int{1000000000, 0, 0, 0} }, api.ErrShape),
			of(fmt.Sprint("a great number ", i), func(q *question) { (*m(q))[i] = []int{0, 0, 1000000000} }, api.ErrRange),
			of(fmt.Sprint("a small number ", i), func(q *question) { (*m(q))[i] = []int{-1000000001, 0, 0} }, api.ErrRange))
	}
	return l
}

// matrixFlaws are flaws of matrices, powers and lists, in their order.
func matrixFlaws() []flaw {
	product, power, list := flawOf("product"), flawOf("power"), flawOf("list")
	return slices.Concat(
		oneMatrixFlaws("matrix", func(q *question) *[][]int { return &q.m }),
		oneMatrixFlaws("other", func(q *question) *[][]int { return &q.other }),
		[]flaw{
			product("a great sum", func(q *question) { q.other[1][1] = 1 }, api.ErrLarge),
			power("-1", func(q *question) { q.n = -1 }, api.ErrRange),
			power("65", func(q *question) { q.n = 65 }, api.ErrRange),
			power("3", func(q *question) { q.n = 3 }, api.ErrLarge),
			list("two numbers", func(q *question) { q.x = []int{1000000000, 0} }, api.ErrShape),
			list("four numbers", func(q *question) { q.x = append(q.x, 1000000000) }, api.ErrShape),
			list("a great number", func(q *question) { q.x[0] = 1000000000 }, api.ErrRange),
			list("a small number", func(q *question) { q.x[2] = -1000000001 }, api.ErrRange),
			list("a great sum", func(q *question) { q.x[1] = 1 }, api.ErrLarge),
		})
}

// cycleFlaws are flaws of matrices and cycles, in their order.
func cycleFlaws() []flaw {
	cycle := flawOf("cycle")
	return slices.Concat(
		oneMatrixFlaws("matrix", func(q *question) *[][]int { return &q.m }),
		[]flaw{
			cycle("nothing", func(q *question) { q.cycle = nil }, api.ErrEmpty),
			cycle("no row", func(q *question) { q.cycle = []int{-1, -1, 3} }, api.ErrUnknown),
			cycle("a row twice", func(q *question) { q.cycle = []int{0, 0, 3} }, api.ErrTwice),
			cycle("no row behind", func(q *question) { q.cycle = []int{0, 1, 3, 3} }, api.ErrUnknown),
			cycle("a row twice behind", func(q *question) { q.cycle = []int{2, 0, 2} }, api.ErrTwice),
			cycle("the other way round", func(q *question) { q.cycle = []int{2, 0, 1} }, api.ErrNone),
			{"cycles", "none", func(q *question) { q.m = matrix(". -1 .", ". . -1", ". . .") }, api.ErrNone},
		})
}

func TestP8ErrorsInOrder(t *testing.T) {
	expect(t, "a fresh question", fresh(), func(answer) api.Errno { return api.OK })
	// Flaws are only tried in pairs with others that some function has as well.
	inOrder(t, slices.Concat(slotFlaws(), allRequestFlaws(), assignmentFlaws(), startFlaws())...)
	inOrder(t, paceFlaws()...)
	inOrder(t, matrixFlaws()...)
	inOrder(t, cycleFlaws()...)
}

func TestP8_1CheckSlots(t *testing.T) {
	most := slots()
	for i := range 24 {
		most = append(most, sheet.Slot{Minute: 5 * (i / 12), Hole: 1 + i%12, Places: 8})
	}
	is(t, "24 slots", sheet.CheckSlots(most), api.OK)
	is(t, "25 slots", sheet.CheckSlots(append(most, sheet.Slot{Minute: 6, Hole: 1, Places: 1})), api.ErrMany)
	for _, c := range []struct {
		what string
		l    []sheet.Slot
		want api.Errno
	}{
		{"none", nil, api.OK},
		{"the least one", slots("0 1 1"), api.OK},
		{"the greatest one", slots("10000 36 8"), api.OK},
		{"a minute below", slots("-1 1 1"), api.ErrRange},
		{"a minute above", slots("10001 1 1"), api.ErrRange},
		{"a hole below", slots("0 0 1"), api.ErrRange},
		{"a hole above", slots("0 37 1"), api.ErrRange},
		{"no places", slots("0 1 0"), api.ErrRange},
		{"nine places", slots("0 1 9"), api.ErrRange},
		{"extremes", []sheet.Slot{{Minute: math.MinInt, Hole: math.MaxInt, Places: math.MinInt}}, api.ErrRange},
		{"a later minute on an earlier hole", slots("5 9 1", "6 1 1"), api.OK},
		{"the same minute on a later hole", slots("5 9 1", "5 10 1"), api.OK},
		{"the same minute on the same hole", slots("5 9 1", "5 9 2"), api.ErrOrder},
		{"the same minute on an earlier hole", slots("5 9 1", "5 8 1"), api.ErrOrder},
		{"an earlier minute on a later hole", slots("5 9 1", "4 10 1"), api.ErrOrder},
		{"an order before a range", slots("5 1 1", "4 1 1", "4 1 9"), api.ErrOrder},
		{"a range before an order", slots("5 1 1", "4 1 9", "3 1 1"), api.ErrRange},
	} {
		is(t, c.what, sheet.CheckSlots(c.l), c.want)
		is(t, "requests with "+c.what, sheet.CheckRequests(c.l, nil), c.want)
	}
}

func TestP8_1CheckRequests(t *testing.T) {
	l := sampleSlots()
	is(t, "the example", sheet.CheckRequests(l, sample()), api.OK)
	var most []sheet.Request
	for i := range 24 {
		most = append(most, requests(fmt.Sprint("n", i, "! 0:1 1:10000"))[0])
	}
	is(t, "24 requests", sheet.CheckRequests(l, most), api.OK)
	is(t, "25 requests", sheet.CheckRequests(l, append(most, sheet.Request{})), api.ErrMany)
	for _, c := range []struct {
		what string
		l    []sheet.Slot
		r    []sheet.Request
		want api.Errno
	}{
		{"none", l, nil, api.OK},
		{"nothing at all", nil, nil, api.OK},
		{"no wishes", nil, requests("ann!"), api.OK},
		{"a slot where there is none", nil, requests("ann 0:1"), api.ErrUnknown},
		{"a long name", l, requests(strings.Repeat("x", 24)), api.OK},
		{"a longer name", l, requests(strings.Repeat("x", 25)), api.ErrName},
		{"no name", l, []sheet.Request{{}}, api.ErrName},
		{"a name twice", l, requests("ann", "ben", "ann"), api.ErrTwice},
		{"another letter", l, requests("ann", "Ann"), api.OK},
		{"a name twice, behind a wish", l, requests("ann", "ben 2:1", "ann"), api.ErrUnknown},
		{"the slot -1", l, requests("ann -1:1"), api.ErrUnknown},
		{"the slot 2", l, requests("ann 1:1 2:1"), api.ErrUnknown},
		{"the same slot", l, requests("ann 1:1 1:1"), api.ErrOrder},
		{"an earlier slot", l, requests("ann 1:1 0:1"), api.ErrOrder},
		{"the slot before the last one again", slots("0 1 1", "1 1 1", "2 1 1"), requests("ann 0:1 2:1 1:1"), api.ErrOrder},
		{"a weight before an order", l, requests("ann 1:10001 0:1"), api.ErrRange},
		{"an order before a weight", l, requests("ann 1:1 0:10001"), api.ErrOrder},
		{"an unknown slot before an order", l, requests("ann 1:1 -1:1"), api.ErrUnknown},
		{"the weight 0", l, requests("ann 0:0"), api.ErrRange},
		{"the weight -1", l, requests("ann 0:-1"), api.ErrRange},
		{"the weight 10001", l, requests("ann 0:1 1:10001"), api.ErrRange},
		{"extremes", l, []sheet.Request{{Name: "ann", Wishes: []sheet.Wish{{Slot: math.MinInt, Weight: math.MaxInt}}}}, api.ErrUnknown},
	} {
		is(t, c.what, sheet.CheckRequests(c.l, c.r), c.want)
		_, e := sheet.Most(c.l, c.r)
		is(t, "the most of "+c.what, e, c.want)
	}
}

func TestP8_5CheckPace(t *testing.T) {
	is(t, "the example", sheet.CheckPace(samplePace()), api.OK)
	is(t, "nothing", sheet.CheckPace(sheet.Pace{}), api.ErrEmpty)
	is(t, "rows for nobody", sheet.CheckPace(sheet.Pace{Minutes: matrix("1"), Holds: []int{1}}), api.ErrEmpty)
	most := sheet.Pace{Ready: slices.Repeat([]int{10000}, 24), Holds: slices.Repeat([]int{8}, 36)}
	for range 24 {
		most.Minutes = append(most.Minutes, slices.Repeat([]int{10000}, 36))
	}
	is(t, "the greatest pace", sheet.CheckPace(most), api.OK)
	few := sheet.Pace{Ready: []int{0}, Minutes: matrix("1"), Holds: []int{1}}
	is(t, "the smallest pace", sheet.CheckPace(few), api.OK)
	few.Minutes[0][0] = math.MinInt
	is(t, "the least number", sheet.CheckPace(few), api.ErrRange)
	few.Holds[0] = math.MaxInt
	is(t, "what a hole holds is first", sheet.CheckPace(few), api.ErrRange)
	few.Holds = nil
	is(t, "no holes before rows", sheet.CheckPace(few), api.ErrEmpty)
	few.Minutes = nil
	is(t, "no rows before holes", sheet.CheckPace(few), api.ErrShape)
	few.Ready[0] = -1
	is(t, "a minute before rows", sheet.CheckPace(few), api.ErrRange)
}

func TestP8_6CheckMatrix(t *testing.T) {
	largest := make([][]int, 24)
	for i := range largest {
		largest[i] = slices.Repeat([]int{sheet.None}, 24)
	}
	is(t, "24 rows", sheet.CheckMatrix(largest), api.OK)
	is(t, "25 rows", sheet.CheckMatrix(append(largest, nil)), api.ErrMany)
	for _, c := range []struct {
		what string
		m    [][]int
		want api.Errno
	}{
		{"nothing", nil, api.OK},
		{"a number", matrix("0"), api.OK},
		{"none", matrix("-1000000000"), api.OK},
		{"limits", matrix("999999999 -999999999", ". ."), api.OK},
		{"a greater number", matrix("0 1000000000", "0 0"), api.ErrRange},
		{"a number below none", matrix("0 0", "0 -1000000001"), api.ErrRange},
		{"an empty row", [][]int{nil}, api.ErrShape},
		{"a row too long", matrix("0 0"), api.ErrShape},
		{"a row too short", matrix("0 0", "0"), api.ErrShape},
		{"a shape before a number", matrix("0", "0 1000000000"), api.ErrShape},
		{"a number before a shape", matrix("0 1000000000", "0"), api.ErrRange},
		{"extremes", [][]int{{math.MinInt, 0}, {0, math.MaxInt}}, api.ErrRange},
	} {
		is(t, c.what, sheet.CheckMatrix(c.m), c.want)
		_, e := sheet.Power(c.m, 0)
		is(t, "the power of "+c.what, e, c.want)
	}
}
