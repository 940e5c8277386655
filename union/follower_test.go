package union_test

import (
	"fmt"
	"math/rand"
	"slices"
	"testing"

	"niblick/api"
	"niblick/union"
)

// randomMessages returns messages without conflicts in any order, some of them repeated.
func randomMessages(random *rand.Rand, devices, numbers, count int) []union.Message {
	said := map[string]union.Message{}
	var l []union.Message
	for range count {
		m := union.Message{Device: string(rune('a' + random.Intn(devices))), Number: 1 + random.Intn(numbers)}
		key := fmt.Sprint(m.Device, m.Number)
		if _, has := said[key]; !has {
			m.Player, m.Hole = pick(random, append(somePlayers, "zoe")...), 1+random.Intn(pick(random, 2, 4, 36))
			m.Entry = entry(randomEntry(random))
			said[key] = m
		}
		l = append(l, said[key])
	}
	return l
}

// received returns what a follower has who receives messages one after another.
func received(t *testing.T, l []union.Message) union.Follower {
	t.Helper()
	var f union.Follower
	for _, m := range l {
		next, e := union.Receive(f, m)
		f = ok(t, next, e)
	}
	return f
}

// fullFollower returns a follower with as many messages as there may be.
func fullFollower(device string) union.Follower {
	var f union.Follower
	for n := 1; n <= 1000; n++ {
		f.Messages = append(f.Messages, union.Message{Device: device, Number: n, Player: "ann", Hole: 1 + n%36, Entry: entry("4")})
	}
	return f
}

func TestP10_3Examples(t *testing.T) {
	f := received(t, messages("d 3 ann 1 5", "d 1 ann 1 4"))
	shown, e := union.Shown(f)
	gives(t, "the messages", shown, e, messages("d 1 ann 1 4"))
	gaps, e := union.Gaps(f)
	gives(t, "the gap", gaps, e, []union.Gap{{Device: "d", Number: 2}})
	f, e = union.Receive(f, message("d 2 ann 2 3"))
	shown, e = union.Shown(ok(t, f, e))
	gives(t, "all messages", shown, e, messages("d 1 ann 1 4", "d 2 ann 2 3", "d 3 ann 1 5"))
	gaps, e = union.Gaps(f)
	gives(t, "no gap", gaps, e, nil)
}

func TestP10_3Receive(t *testing.T) {
	f := follower("B 7 ann 1 4", "b 1 ann 1 4", "b 10 ben 1 4")
	for _, x := range []struct {
		line string
		want []string
	}{
		{"B 6 ann 1 4", []string{"B 6 ann 1 4", "B 7 ann 1 4", "b 1 ann 1 4", "b 10 ben 1 4"}},
		{"B 8 ann 1 4", []string{"B 7 ann 1 4", "B 8 ann 1 4", "b 1 ann 1 4", "b 10 ben 1 4"}},
		{"a 1 ann 1 4", []string{"B 7 ann 1 4", "a 1 ann 1 4", "b 1 ann 1 4", "b 10 ben 1 4"}},
		{"b 9 eva 9 x", []string{"B 7 ann 1 4", "b 1 ann 1 4", "b 9 eva 9 x", "b 10 ben 1 4"}},
		{"ba 1 ann 1 4", []string{"B 7 ann 1 4", "b 1 ann 1 4", "b 10 ben 1 4", "ba 1 ann 1 4"}},
		{"b 10 ben 1 4", []string{"B 7 ann 1 4", "b 1 ann 1 4", "b 10 ben 1 4"}},
	} {
		got, e := union.Receive(f, message(x.line))
		gives(t, x.line, got, e, follower(x.want...))
	}
	for _, line := range []string{"b 10 ann 1 4", "b 10 ben 2 4", "b 10 ben 1 5", "b 10 ben 1 4c"} {
		got, e := union.Receive(f, message(line))
		fails(t, line, got, e, api.ErrConflict)
	}
	full := fullFollower("b")
	got, e := union.Receive(full, full.Messages[500])
	gives(t, "a message again", got, e, full)
	for _, line := range []string{"a 1 ann 1 4", "b1 1 ann 1 4"} {
		got, e = union.Receive(full, message(line))
		fails(t, "a message more", got, e, api.ErrMany)
	}
	got, e = union.Receive(full, message("b 7 ben 36 99"))
	fails(t, "another message", got, e, api.ErrConflict)
	full.Messages = full.Messages[1:]
	got, e = union.Receive(full, fullFollower("b").Messages[0])
	gives(t, "the last one that there is room for", got, e, fullFollower("b"))
}

func TestP10_3Join(t *testing.T) {
	a, b := follower("a 2 ann 1 4", "c 1 ann 1 4"), follower("a 1 ann 1 4", "a 2 ann 1 4", "b 9 ann 1 4")
	got, e := union.Join(a, b)
	gives(t, "both", got, e, follower("a 1 ann 1 4", "a 2 ann 1 4", "b 9 ann 1 4", "c 1 ann 1 4"))
	got, e = union.Join(a, union.Follower{})
	gives(t, "with nothing", got, e, a)
	got, e = union.Join(union.Follower{}, union.Follower{})
	gives(t, "nothing", got, e, union.Follower{})
	got, e = union.Join(fullFollower("a"), fullFollower("a"))
	gives(t, "the same", got, e, fullFollower("a"))
	got, e = union.Join(fullFollower("a"), follower("b 1 ann 1 4"))
	fails(t, "a message more", got, e, api.ErrMany)
	got, e = union.Join(fullFollower("a"), follower("a 5 zoe 1 4", "b 1 ann 1 4"))
	fails(t, "a conflict, and a message more", got, e, api.ErrConflict)
	got, e = union.Join(follower("a 5 zoe 1 4", "b 1 ann 1 4"), fullFollower("a"))
	fails(t, "the other way round", got, e, api.ErrConflict)
	half := union.Follower{Messages: fullFollower("a").Messages[:500]}
	got, e = union.Join(half, union.Follower{Messages: fullFollower("b").Messages[:500]})
	is(t, "as many as there may be", len(ok(t, got, e).Messages), 1000)
}

func TestP10_3CheckFollower(t *testing.T) {
	is(t, "at the limit", union.CheckFollower(fullFollower("a")), api.OK)
	is(t, "the limits of a message", union.CheckMessage(message("abcdefghijklmnopqrstuvwx 1 a 1 1")), api.OK)
	for _, x := range []struct {
		lines []string
		want  api.Errno
	}{
		{[]string{"a 1 ann 1 4", "a 2 ann 1 4", "b 1 ann 1 4"}, api.OK},
		{[]string{"a 9 ann 1 4", "a 10 ann 1 4"}, api.OK},
		{[]string{"a 10 ann 1 4", "a 9 ann 1 4"}, api.ErrOrder},
		{[]string{"b 1 ann 1 4", "a 2 ann 1 4"}, api.ErrOrder},
		{[]string{"a 1 ann 1 4", "B 2 ann 1 4"}, api.ErrOrder},
		{[]string{"a 1 ann 1 4", "a 1 ben 1 4"}, api.ErrOrder},
		{[]string{"ab 1 ann 1 4", "a 2 ann 1 4"}, api.ErrOrder},
		{[]string{"a 1 ann 1 4", "a 1 ann 37 4"}, api.ErrRange},
		{[]string{"a 2 ann 1 4", "a 1 ann 1 4", "1 1 ann 1 4"}, api.ErrOrder},
	} {
		is(t, fmt.Sprint(x.lines), union.CheckFollower(follower(x.lines...)), x.want)
	}
}

func TestP10_3ShownAndGaps(t *testing.T) {
	for _, x := range []struct {
		lines []string
		shown int // from the first one on
		gaps  []union.Gap
	}{
		{nil, 0, nil},
		{[]string{"a 1 ann 1 4", "a 2 ann 1 4"}, 2, nil},
		{[]string{"a 2 ann 1 4"}, 0, []union.Gap{{Device: "a", Number: 1}}},
		{[]string{"a 1 ann 1 4", "a 3 ann 1 4", "a 4 ann 1 4", "a 6 ann 1 4"}, 1, []union.Gap{{Device: "a", Number: 2}}},
		{[]string{"a 1 ann 1 4", "b 1000 ann 1 4"}, 1, []union.Gap{{Device: "b", Number: 1}}},
		{[]string{"a 1 ann 1 4", "b 1 ann 1 4", "b 3 ann 1 4", "c 2 ann 1 4", "d 5 ann 1 4"}, 2, []union.Gap{{Device: "b", Number: 2}, {Device: "c", Number: 1}, {Device: "d", Number: 1}}},
	} {
		f := follower(x.lines...)
		shown, e := union.Shown(f)
		gives(t, fmt.Sprint(x.lines), shown, e, f.Messages[:x.shown])
		gaps, e := union.Gaps(f)
		gives(t, fmt.Sprint(x.lines), gaps, e, x.gaps)
	}
}

func TestP10_3Follow(t *testing.T) {
	u := sample()
	for _, x := range []struct {
		lines []string
		want  string
	}{
		{nil, ""},
		{[]string{"a 1 ann 1 4"}, "ann:0:1"},
		{[]string{"a 2 ann 1 4"}, ""}, // not shown
		{[]string{"a 1 ann 1 4", "a 2 ann 1 6"}, "ann:2:1"},
		{[]string{"a 1 ann 1 4", "a 3 ann 1 6"}, "ann:0:1"},
		{[]string{"a 1 ann 1 4", "b 1 ann 1 6"}, "ann:2:1"},                                       // of equal numbers in the order of the devices
		{[]string{"a 1 ann 1 4", "a 2 ann 1 5", "b 1 ann 1 6"}, "ann:1:1"},                        // in the order of the numbers
		{[]string{"a 1 ann 1 4", "a 2 ann 2 3", "b 1 ben 1 6", "b 2 ann 1 -"}, "ann:0:1 ben:1:1"}, // what was said is taken back
		{[]string{"a 1 zoe 1 4", "a 2 ann 3 4", "a 3 ann 36 4", "a 4 ben 2 3"}, "ben:-1:1"},
		{[]string{"a 1 ann 1 x", "a 2 ann 2 4c"}, "ann:3:2"},
	} {
		board, e := union.Follow(u, follower(x.lines...))
		gives(t, fmt.Sprint(x.lines), board, e, standings(x.want))
	}
	board, e := union.Follow(union.Union{}, follower("a 1 ann 1 4"))
	gives(t, "of nobody", board, e, nil)
	u.Holes, u.Marks = nil, nil
	board, e = union.Follow(u, follower("a 1 ann 1 4"))
	gives(t, "without holes", board, e, nil)
}

func TestP10_3ByDefinition(t *testing.T) {
	random := rand.New(rand.NewSource(3))
	boards, withGaps := 0, 0
	for range 1500 {
		l := randomMessages(random, 1+random.Intn(4), 1+random.Intn(12), random.Intn(40))
		f := received(t, l)
		what := fmt.Sprint(f)
		want, _ := slowJoin(union.Follower{Messages: l}, union.Follower{})
		is(t, what, f, want)
		shown, e := union.Shown(f)
		gives(t, what, shown, e, slowShown(f))
		gaps, e := union.Gaps(f)
		gives(t, what, gaps, e, slowGaps(f))
		if len(gaps) > 0 {
			withGaps++
		}
		u := randomUnion(random)
		board, e := union.Follow(u, f)
		gives(t, fmt.Sprint(u, f), board, e, slowFollow(u, f))
		if len(board) > 1 {
			boards++
		}
		other := received(t, randomMessages(random, 1+random.Intn(4), 1+random.Intn(40), random.Intn(5)))
		join, e := union.Join(f, other)
		want, err := slowJoin(f, other)
		is(t, what, join, want)
		is(t, what, e, err)
	}
	is(t, "often both", boards > 300 && withGaps > 300, true)
	f := fullFollower("a")
	f.Messages = slices.Delete(f.Messages, 998, 999)
	shown, e := union.Shown(f)
	gives(t, "a long one", shown, e, f.Messages[:998])
}
