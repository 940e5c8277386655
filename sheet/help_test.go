package sheet_test

import (
	"fmt"
	"math/rand"
	"reflect"
	"slices"
	"strconv"
	"strings"
	"testing"

	"niblick/api"
	"niblick/sheet"
)

// same compares values; nil and empty lists are equal.
func same(a, b reflect.Value) bool {
	switch a.Kind() {
	case reflect.Slice:
		if a.Len() != b.Len() {
			return false
		}
		for i := range a.Len() {
			if !same(a.Index(i), b.Index(i)) {
				return false
			}
		}
		return true
	case reflect.Struct:
		for i := range a.NumField() {
			if !same(a.Field(i), b.Field(i)) {
				return false
			}
		}
		return true
	case reflect.Interface:
		return same(a.Elem(), b.Elem())
	}
	return a.Equal(b)
}

// alike reports whether two values of one type are equal.
func alike[T any](a, b T) bool {
	return same(reflect.ValueOf(&a).Elem(), reflect.ValueOf(&b).Elem())
}

// is compares a result with what the document requires.
func is[T any](t *testing.T, what string, got, want T) {
	t.Helper()
	if !alike(got, want) {
		t.Errorf("%s: got %v, want %v", what, got, want)
	}
}

// gives checks a result without an error.
func gives[T any](t *testing.T, what string, got T, e api.Errno, want T) {
	t.Helper()
	if e != api.OK || !alike(got, want) {
		t.Errorf("%s: got %v and the error %d, want %v", what, got, e, want)
	}
}

// fails checks an error, and that the result beside it is the zero value.
func fails[T any](t *testing.T, what string, got T, e, want api.Errno) {
	t.Helper()
	if e != want || !alike(got, *new(T)) {
		t.Errorf("%s: got %v and the error %d, want the error %d alone", what, got, e, want)
	}
}

// ok returns a result that has no error.
func ok[T any](t *testing.T, got T, e api.Errno) T {
	t.Helper()
	if e != api.OK {
		t.Fatalf("the error %d", e)
	}
	return got
}

// meant is the result of Mean.
type meant struct {
	mean  api.Rat
	cycle []int
}

// narrowest is the result of Bottleneck.
type narrowest struct{ hole, sum int }

func mean(m [][]int) (meant, api.Errno) {
	mean, cycle, e := sheet.Mean(m)
	return meant{mean, cycle}, e
}

func bottleneck(p sheet.Pace) (narrowest, api.Errno) {
	hole, sum, e := sheet.Bottleneck(p)
	return narrowest{hole, sum}, e
}

// sampleSlots returns the slots of the chapter's examples.
func sampleSlots() []sheet.Slot {
	return slots("480 1 1", "490 1 1")
}

// sample returns the requests of the chapter's examples.
func sample() []sheet.Request {
	return requests("ann 0:5 1:3", "ben 0:4", "cat! 1:1")
}

// samplePace returns the pace of the chapter's examples.
func samplePace() sheet.Pace {
	return sheet.Pace{Ready: []int{0, 5}, Minutes: [][]int{{10, 12}, {10, 12}}, Holds: []int{1, 1}}
}

// slots returns slots in words: the minute, the hole and the places.
func slots(lines ...string) []sheet.Slot {
	var l []sheet.Slot
	for _, words := range lines {
		n := numbers(strings.Fields(words)...)
		l = append(l, sheet.Slot{Minute: n[0], Hole: n[1], Places: n[2]})
	}
	return l
}

// requests returns requests in words: the name, with a ! if guaranteed, and the wishes with a : between slot and weight.
func requests(lines ...string) []sheet.Request {
	var l []sheet.Request
	for _, words := range lines {
		all := strings.Fields(words)
		var q sheet.Request
		q.Name, q.Guaranteed = strings.CutSuffix(all[0], "!")
		for _, word := range all[1:] {
			n := numbers(strings.Split(word, ":")...)
			q.Wishes = append(q.Wishes, sheet.Wish{Slot: n[0], Weight: n[1]})
		}
		l = append(l, q)
	}
	return l
}

// numbers reads integers, and None from a dot.
func numbers(words ...string) []int {
	var l []int
	for _, word := range words {
		n, err := strconv.Atoi(word)
		if word == "." {
			n = sheet.None
		} else if err != nil {
			panic(err)
		}
		l = append(l, n)
	}
	return l
}

// matrix reads rows of integers, and None from dots.
func matrix(rows ...string) [][]int {
	var m [][]int
	for _, row := range rows {
		m = append(m, numbers(strings.Fields(row)...))
	}
	return m
}

// question is what the functions are asked.
type question struct {
	slots                         []sheet.Slot
	first, last, interval, places int
	minute, holes, each           int
	sunrise, sunset, round        int
	requests, party, crowd        []sheet.Request
	assignment                    []int
	request                       int
	value                         int
	prices                        sheet.Prices
	pace                          sheet.Pace
	m, other                      [][]int
	n                             int
	x                             []int
	cycle                         []int
	minutes                       []int
}

// answer is what a function returned; uses are the words of the arguments, and of what else can be wrong with them.
type answer struct {
	name, uses string
	value      any
	e          api.Errno
}

// answered makes an answer of what a function returned.
func answered[T any](name, uses string) func(x T, e api.Errno) answer {
	return func(x T, e api.Errno) answer { return answer{name, uses, x, e} }
}

// answers asks all functions.
func answers(q question) []answer {
	return []answer{
		{"CheckSlots", "slots", 0, sheet.CheckSlots(q.slots)},
		answered[[]sheet.Slot]("Starts", "starts")(sheet.Starts(q.first, q.last, q.interval, q.places)),
		answered[[]sheet.Slot]("Shotgun", "shotgun")(sheet.Shotgun(q.minute, q.holes, q.each)),
		answered[[]int]("Daylight", "slots light")(sheet.Daylight(q.slots, q.sunrise, q.sunset, q.round)),
		{"CheckRequests", "slots requests", 0, sheet.CheckRequests(q.slots, q.requests)},
		answered[int]("CheckAssignment", "slots requests assignment")(sheet.CheckAssignment(q.slots, q.requests, q.assignment)),
		answered[int]("Best", "slots party feasible")(sheet.Best(q.slots, q.party)),
		answered[[]int]("Assign", "slots party feasible")(sheet.Assign(q.slots, q.party)),
		answered[[]int]("First", "slots party feasible")(sheet.First(q.slots, q.party)),
		answered[int]("Most", "slots party")(sheet.Most(q.slots, q.party)),
		answered[sheet.Prices]("Proof", "slots party feasible")(sheet.Proof(q.slots, q.party)),
		{"CheckProof", "slots requests prices", 0, sheet.CheckProof(q.slots, q.requests, q.value, q.prices)},
		answered[[]int]("Excluded", "slots crowd sure")(sheet.Excluded(q.slots, q.crowd)),
		answered[[]int]("Withdraw", "slots requests assignment withdrawal")(sheet.Withdraw(q.slots, q.requests, q.assignment, q.request)),
		{"CheckPace", "pace", 0, sheet.CheckPace(q.pace)},
		answered[[][]int]("Begins", "pace")(sheet.Begins(q.pace)),
		answered[[][]int]("Ends", "pace")(sheet.Ends(q.pace)),
		answered[[]int]("Delays", "pace")(sheet.Delays(q.pace)),
		answered[narrowest]("Bottleneck", "pace")(bottleneck(q.pace)),
		{"CheckMatrix", "matrix", 0, sheet.CheckMatrix(q.m)},
		answered[[][]int]("Product", "matrix other product")(sheet.Product(q.m, q.other)),
		answered[[][]int]("Power", "matrix power")(sheet.Power(q.m, q.n)),
		answered[[]int]("Apply", "matrix list")(sheet.Apply(q.m, q.x)),
		answered[meant]("Mean", "matrix cycles")(mean(q.m)),
		answered[api.Rat]("CheckCycle", "matrix cycle cycles")(sheet.CheckCycle(q.m, q.cycle)),
		answered[[][]int]("Holes", "minutes")(sheet.Holes(q.minutes)),
	}
}

// fresh returns a question that all functions answer without an error, many of them at a limit.
func fresh() question {
	return question{
		slots: slots("0 1 8", "0 36 1", "10000 1 1"),
		first: 0, last: 10000, interval: 10000, places: 8,
		minute: 10000, holes: 24, each: 8,
		sunrise: 10000, sunset: 0, round: 10000,
		requests:   requests("ann 0:10000 1:1 2:1", "ben! 1:2 2:10000", "cat 0:7 1:5"),
		party:      requests("ann 0:3 1:1", "ben! 1:2 2:10000", "cat! 0:7"),
		crowd:      requests("ann! 1:10000", "ben! 0:1 2:1", "cat! 1:5"),
		assignment: []int{1, 2, 0}, request: 1,
		value: 20007, prices: sheet.Prices{Requests: []int{10000, 10000, 7}, Slots: []int{0, 0, 0}},
		pace: sheet.Pace{Ready: []int{0, 10000, 5}, Minutes: [][]int{{1, 10000, 7}, {2, 3, 4}, {9, 9, 9}}, Holds: []int{1, 8, 2}},
		m:    matrix("0 999999999 .", "-999999998 . 0", "0 . -1"), other: matrix(". 0 .", "-1 . 0", ". . -3"),
		n: 2, x: []int{sheet.None, 0, -999999998}, cycle: []int{1, 0, 2},
		minutes: []int{10000, 1, 7},
	}
}

// isEmpty reports whether a value is the zero value, or has empty lists.
func isEmpty(x any) bool {
	v := reflect.ValueOf(x)
	return same(v, reflect.Zero(v.Type()))
}

// expect checks the errors of all answers, and that each result beside one is the zero value.
func expect(t *testing.T, what string, q question, want func(a answer) api.Errno) {
	t.Helper()
	for _, a := range answers(q) {
		if e := want(a); a.e != e {
			t.Errorf("%s: %s has the error %d, want %d", what, a.name, a.e, e)
		}
		if a.e != api.OK && !isEmpty(a.value) {
			t.Errorf("%s: %s has the result %v beside an error", what, a.name, a.value)
		}
	}
}

// flaw spoils an argument of a question that is right.
type flaw struct {
	of    string
	name  string
	spoil func(q *question)
	want  api.Errno
}

// inOrder checks that each flaw has its error in all functions with this argument, and that of two flaws the one that is named first decides.
func inOrder(t *testing.T, flaws ...flaw) {
	t.Helper()
	try := func(what string, q question, spoiled ...flaw) {
		t.Helper()
		expect(t, what, q, func(a answer) api.Errno {
			for _, f := range spoiled {
				if slices.Contains(strings.Fields(a.uses), f.of) {
					return f.want
				}
			}
			return api.OK
		})
	}
	for i, f := range flaws {
		q := fresh()
		f.spoil(&q)
		try(f.name, q, f)
		for _, later := range flaws[i+1:] {
			q := fresh()
			later.spoil(&q)
			f.spoil(&q)
			try(f.name+" and "+later.name, q, f, later)
		}
	}
}

// upTo returns the numbers from 0 to n - 1.
func upTo(n int) []int {
	l := make([]int, n)
	for i := range l {
		l[i] = i
	}
	return l
}

func sum(l []int) int {
	sum := 0
	for _, n := range l {
		sum += n
	}
	return sum
}

// pick returns an element at random.
func pick[T any](random *rand.Rand, l ...T) T {
	return l[random.Intn(len(l))]
}

// randomSlots returns slots, most of which have few places.
func randomSlots(random *rand.Rand, n int) []sheet.Slot {
	var l []sheet.Slot
	for j := range n {
		l = append(l, sheet.Slot{Minute: 10 * (j / 2), Hole: 1 + 9*(j%2), Places: pick(random, 1, 1, 1, 2, 3, 8)})
	}
	return l
}

// randomRequests returns requests for so many slots; as many in a hundred as said are guaranteed, and each one wishes for each slot with the other percentage.
func randomRequests(random *rand.Rand, n, slots, sure, wishes int) []sheet.Request {
	var l []sheet.Request
	weights := pick(random, 1, 2, 5, 30, 10000)
	for i := range n {
		q := sheet.Request{Name: fmt.Sprint("q", i), Guaranteed: random.Intn(100) < sure}
		for slot := range slots {
			if random.Intn(100) < wishes {
				q.Wishes = append(q.Wishes, sheet.Wish{Slot: slot, Weight: 1 + random.Intn(weights)})
			}
		}
		l = append(l, q)
	}
	return l
}

// randomSheet returns slots and requests that are few enough for slow functions.
func randomSheet(random *rand.Rand) ([]sheet.Slot, []sheet.Request) {
	n := random.Intn(5)
	return randomSlots(random, n), randomRequests(random, random.Intn(7), n, pick(random, 0, 20, 50, 100), pick(random, 20, 50, 80, 100))
}

// largeSheet returns as many slots and requests as there can be.
func largeSheet(random *rand.Rand) ([]sheet.Slot, []sheet.Request) {
	return randomSlots(random, 24), randomRequests(random, 24, 24, pick(random, 0, 30, 100), pick(random, 5, 20, 100))
}

func randomPace(random *rand.Rand, groups, holes int) sheet.Pace {
	var p sheet.Pace
	minutes, hold := pick(random, 1, 2, 5, 20), pick(random, 1, 2, 4, 8)
	for range holes {
		p.Holds = append(p.Holds, 1+random.Intn(hold))
	}
	spread := pick(random, 1, 10, 40)
	for range groups {
		p.Ready = append(p.Ready, random.Intn(spread))
		var row []int
		for range holes {
			row = append(row, 1+random.Intn(minutes))
		}
		p.Minutes = append(p.Minutes, row)
	}
	return p
}

// randomMatrix returns a matrix in which so many numbers in a hundred are not None.
func randomMatrix(random *rand.Rand, n, some int) [][]int {
	m := make([][]int, n)
	greatest := pick(random, 1, 3, 20, 1000000, 999999999)
	for i := range m {
		for range m {
			entry := sheet.None
			if random.Intn(100) < some {
				entry = random.Intn(2*greatest+1) - greatest
			}
			m[i] = append(m[i], entry)
		}
	}
	return m
}
