package union_test

import (
	"fmt"
	"math/rand"
	"strings"
	"testing"

	"niblick/api"
	"niblick/union"
)

// sealed returns a record with the seal that belongs to a text after another seal.
func sealed(body string, before int) string {
	return fmt.Sprintf("%s#%06x\n", body, slowSeal(body, before))
}

func TestP10_5Examples(t *testing.T) {
	log, e := union.Append("", occurrence(1, "club links"))
	gives(t, "the first record", log, e, "1 club links#2e29c3\n")
	got, e := recoverLog("1#000032\n")
	if e != api.ErrSyntax || !alike(got, recovered{}) {
		t.Errorf("a number: %v, %d", got, e)
	}
	got, e = recoverLog("1#000033\n")
	if e != api.ErrCheck || !alike(got, recovered{}) {
		t.Errorf("a number with another seal: %v, %d", got, e)
	}
}

// recoveredWith checks what is recovered of a text, and beside which error.
func recoveredWith(t *testing.T, log string, want recovered, err api.Errno) {
	t.Helper()
	got, e := recoverLog(log)
	if e != err || !alike(got, want) {
		t.Errorf("%.100q: got %v and the error %d, want %v and %d", log, got, e, want, err)
	}
}

func TestP10_5Records(t *testing.T) {
	for _, x := range []struct {
		event api.Event
		body  string
	}{
		{occurrence(7, "club links"), "7 club links"},
		{occurrence(1000, "member ann links -3"), "1000 member ann links -3"},
		{occurrence(1, "holes 4:2 3:1"), "1 holes 4:2 3:1"},
		{api.Event{Number: 1, Kind: "holes"}, "1 holes "},
		{api.Event{Number: 1, Kind: "holes", Text: " x "}, "1 holes  x "},
		{occurrence(2, "mark ann ben 999999999 5c"), "2 mark ann ben 999999999 5c"},
		{occurrence(3, "claim ann 0 \xff\x00\r"), "3 claim ann 0 \xff\x00\r"},
		{occurrence(4, "ruling ann 12 "), "4 ruling ann 12 "},
		{occurrence(5, "sign A_9"), "5 sign A_9"},
		{occurrence(6, "round one"), "6 round one"},
		{occurrence(9, "undo"), "9 undo"},
	} {
		first, e := union.Append("", x.event)
		gives(t, x.body, first, e, sealed(x.body, 0))
		recoveredWith(t, first, recovered{[]api.Event{x.event}, len(first)}, api.OK)
		// Events of a log need not be accepted, and their numbers not be in order.
		second, e := union.Append(first, x.event)
		gives(t, x.body, second, e, first+sealed(x.body, slowSeal(x.body, 0)))
		recoveredWith(t, second, recovered{[]api.Event{x.event, x.event}, len(second)}, api.OK)
	}
}

func TestP10_5SealsOfAllSizes(t *testing.T) {
	small := 0
	for n := range 100000 {
		body := fmt.Sprint("1 claim ann ", n, " x")
		if slowSeal(body, 0) < 1<<12 {
			small++
			log, e := union.Append("", occurrence(1, fmt.Sprint("claim ann ", n, " x")))
			gives(t, body, log, e, sealed(body, 0))
		}
	}
	is(t, "often zeros in front", small > 5, true)
}

func TestP10_5Recover(t *testing.T) {
	recoveredWith(t, "", recovered{}, api.OK)
	club := "1 club links#2e29c3\n"
	seal := slowSeal("1 club links", 0)
	one := recovered{events("club links"), len(club)}
	for rest, want := range map[string]api.Errno{
		"":                         api.OK,
		"2":                        api.ErrTorn,
		"2 undo#000000":            api.ErrTorn,
		"x#":                       api.ErrTorn,
		"\n":                       api.ErrSyntax,
		"#\n":                      api.ErrSyntax,
		"2 undo\n":                 api.ErrSyntax,
		"2 undo#\n":                api.ErrSyntax,
		"2 undo#12345\n":           api.ErrSyntax,
		"2 undo#1234567\n":         api.ErrSyntax,
		"2 undo#12345A\n":          api.ErrSyntax,
		"2 undo#12 456\n":          api.ErrSyntax,
		"2 undo#-12345\n":          api.ErrSyntax,
		"2 undo#12345\xff\n":       api.ErrSyntax,
		"2 undo#\xff12345\n":       api.ErrSyntax,
		"2 undo#12345g\n":          api.ErrSyntax,
		"2 undo#12345/\n":          api.ErrSyntax,
		"2 undo#12345:\n":          api.ErrSyntax,
		"2 undo#12345`\n":          api.ErrSyntax,
		"2 undo#123456\n":          api.ErrCheck,
		"2 undo#ffffff\n":          api.ErrCheck,
		"2 undo#123456\nx":         api.ErrCheck,
		"2 undo#123456#123456\n":   api.ErrCheck,
		"#000000\n":                api.ErrCheck,
		"#2e29c3\n":                api.ErrSyntax, // the seal of nothing is the one before
		sealed("2 undo", 0):        api.ErrCheck,
		sealed("2 undo", seal)[1:]: api.ErrCheck,
		strings.TrimSuffix(sealed("2 undo", seal), "\n"): api.ErrTorn,
	} {
		got, e := recoverLog(club + rest)
		if e != want || !alike(got, one) {
			t.Errorf("%q: got %v and the error %d, want %d", rest, got, e, want)
		}
	}
	// A seal has six digits, whatever they are.
	for i := range 6 {
		for b := range 256 {
			digits := []byte("123456")
			digits[i] = byte(b)
			want := api.ErrSyntax
			if strings.ContainsRune("0123456789abcdef", rune(b)) {
				want = api.ErrCheck
			}
			recoveredWith(t, club+"2 undo#"+string(digits)+"\n", one, want)
		}
	}
	// Seals of texts that are no bodies.
	for _, body := range []string{
		"", " ", "2", "2 ", "x undo", "undo", " undo", "0 undo", "1001 undo", "02 undo", "+2 undo", "-2 undo", "2  undo", "2 undo ", "2 undo x", "2 Undo", "2 note",
		"2 club", "2 club ", "2 club  ", "2 club 1", "2 club links x", "2 club links ", "2 club " + strings.Repeat("a", 25),
		"2 member ann links", "2 member ann", "2 member ann 1 0", "2 holes", "2 holes 4:1#", "2 holes #4:1", "2 holes " + strings.Repeat("x", 4097),
		"2 mark ann ben 1", "2 mark ann ben x 4", "2 mark ann ben 01 4", "2 mark ann ben -1 4", "2 mark ann ben 1000000000 4", "2 mark ann ben  4", "2 mark ann 1 4", "2 mark ann  1 4",
		"2 claim ann", "2 claim ann 1", "2 claim 1 4", "2 ruling ann +1 4", "2 sign", "2 sign ann ben", "2 round", "99999999999999999999 undo", "2\tundo", "\xff",
	} {
		recoveredWith(t, club+sealed(body, seal), one, api.ErrSyntax)
		recoveredWith(t, club+sealed(body, seal)+"x", one, api.ErrSyntax)
	}
	for _, body := range []string{"2 holes ", "2 holes " + strings.Repeat("x", 4096), "1000 undo", "1 undo"} {
		got, e := recoverLog(club + sealed(body, seal))
		is(t, body, len(ok(t, got, e).events), 2)
	}
}

func TestP10_5Limits(t *testing.T) {
	log := slowLog(events(undone(1000)...))
	got, e := recoverLog(log)
	is(t, "as many events as there may be", len(ok(t, got, e).events), 1000)
	before := slowLog(events(undone(999)...))
	more, e := union.Append(before, occurrence(1000, "undo"))
	gives(t, "the last event that there is room for", more, e, before+sealed("1000 undo", mustSeal(before, 999)))
	more, e = union.Append(log, occurrence(1, "undo"))
	fails(t, "an event more", more, e, api.ErrMany)
	more, e = union.Append(log, occurrence(1001, "undo"))
	fails(t, "an event more that is none", more, e, api.ErrRange)
	more, e = union.Append(log[:len(log)-1], api.Event{})
	fails(t, "a torn log", more, e, api.ErrTorn)
	all := recovered{events(undone(1000)...), len(log)}
	last := got.events[999]
	seal := slowSeal(slowBody(last), mustSeal(log, 999))
	recoveredWith(t, log+sealed("1000 undo", seal), all, api.ErrMany)
	recoveredWith(t, log+sealed("1000 undo", seal)+sealed("x", 0), all, api.ErrMany)
	recoveredWith(t, log+sealed("1001 undo", seal), all, api.ErrSyntax)
	recoveredWith(t, log+sealed("1000 undo", 0), all, api.ErrCheck)
	recoveredWith(t, log+"x", all, api.ErrTorn)
	recoveredWith(t, log+"\n", all, api.ErrSyntax)

	// A log of the greatest length: 243 records of 4113 bytes, and the rest.
	long := api.Event{Number: 1, Kind: "holes", Text: strings.Repeat("x", 4096)}
	log = ""
	for len(log) < 990000 {
		log, e = union.Append(log, long)
		is(t, "a long record", e, api.OK)
	}
	rest := 1000000 - len(log) - len("1 holes #123456\n")
	for rest > 4096 {
		log, e = union.Append(log, long)
		is(t, "a long record", e, api.OK)
		rest = 1000000 - len(log) - len("1 holes #123456\n")
	}
	long.Text = strings.Repeat("x", rest+1)
	more, e = union.Append(log, long)
	fails(t, "a byte too many", more, e, api.ErrLong)
	long.Text = long.Text[1:]
	log, e = union.Append(log, long)
	is(t, "as long as there may be", len(ok(t, log, e)), 1000000)
	got, e = recoverLog(log)
	is(t, "the whole of it", ok(t, got, e).length, 1000000)
	more, e = union.Append(log, occurrence(1, "undo"))
	fails(t, "a record too many", more, e, api.ErrLong)
	got, e = recoverLog(log + "\n")
	fails(t, "a long text", got, e, api.ErrLong)
	recoveredWith(t, strings.Repeat("x", 1000000), recovered{}, api.ErrTorn)
	recoveredWith(t, strings.Repeat("\n", 1000000), recovered{}, api.ErrSyntax)
}

// mustSeal returns the seal of a record of a log, from 1 on.
func mustSeal(log string, n int) int {
	seal := 0
	for _, line := range strings.Split(log, "\n")[:n] {
		seal = slowSeal(line[:strings.LastIndex(line, "#")], seal)
	}
	return seal
}

// randomLog returns a log of events that may be in any order.
func randomLog(random *rand.Rand) string {
	var l []api.Event
	for range random.Intn(12) {
		if e, is := wild(random, union.Union{}, 1+random.Intn(1000)); is && slowCheckEvent(e) == api.OK {
			l = append(l, e)
		}
	}
	return slowLog(l)
}

func TestP10_5ByDefinition(t *testing.T) {
	random := rand.New(rand.NewSource(5))
	count := map[api.Errno]int{}
	for range 4000 {
		log := randomLog(random)
		for range random.Intn(3) {
			if log == "" {
				break
			}
			i := random.Intn(len(log))
			switch random.Intn(5) {
			case 0:
				log = log[:i]
			case 1:
				log = log[i:]
			case 2:
				log = log[:i] + pick(random, "#", "\n", " ", "0", "a", "x") + log[i:]
			case 3:
				log = log[:i] + string([]byte{byte(random.Intn(256))}) + log[i+1:]
			case 4:
				log += randomLog(random)
			}
		}
		want, err := slowRecover(log)
		recoveredWith(t, log, want, err)
		count[err]++
		e := occurrence(1+random.Intn(1000), "club c")
		got, e2 := union.Append(log, e)
		if err != api.OK {
			fails(t, log, got, e2, err)
			continue
		}
		gives(t, log, got, e2, slowLog(append(want.events, e)))
	}
	is(t, fmt.Sprint("often different ", count), count[api.OK] > 300 && count[api.ErrTorn] > 300 && count[api.ErrSyntax] > 100 && count[api.ErrCheck] > 300, true)
}
