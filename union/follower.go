package union

import (
	"cmp"
	"iter"
	"slices"
	"strings"

	"niblick/api"
)

// byDevice compares messages by their devices, and by their numbers if these are equal.
func byDevice(a, b Message) int {
	return cmp.Or(strings.Compare(a.Device, b.Device), cmp.Compare(a.Number, b.Number))
}

// byNumber compares messages by their numbers, and by their devices if these are equal.
func byNumber(a, b Message) int {
	return cmp.Or(cmp.Compare(a.Number, b.Number), strings.Compare(a.Device, b.Device))
}

// CheckMessage returns the first error of a message, or OK.
func CheckMessage(m Message) api.Errno {
	return firstError(
		checkName(m.Device),
		within(m.Number, 1, api.MaxEvents),
		checkName(m.Player),
		within(m.Hole, 1, api.MaxHoles),
		checkEntry(m.Entry))
}

// CheckFollower returns the first error of a follower, or OK.
func CheckFollower(f Follower) api.Errno {
	if len(f.Messages) > api.MaxEvents {
		return api.ErrMany
	}
	return checkEach(f.Messages, func(i int, m Message) api.Errno {
		return firstError(
			CheckMessage(m),
			unless(i == 0 || byDevice(f.Messages[i-1], m) < 0, api.ErrOrder))
	})
}

// Receive returns the follower with a message.
func Receive(f Follower, m Message) (Follower, api.Errno) {
	return Join(f, Follower{Messages: []Message{m}})
}

// Join returns the follower with the messages of both.
func Join(a, b Follower) (Follower, api.Errno) {
	if e := firstError(CheckFollower(a), CheckFollower(b)); e != api.OK {
		return Follower{}, e
	}
	all := joined(a.Messages, b.Messages...)
	slices.SortFunc(all, byDevice)
	all = slices.Compact(all)
	both := Follower{all}
	e := firstError(
		unless(!both.conflicts(), api.ErrConflict),
		unless(len(all) <= api.MaxEvents, api.ErrMany))
	if e != api.OK {
		return Follower{}, e
	}
	return both, api.OK
}

// conflicts reports whether a device has two messages with one number.
func (f Follower) conflicts() bool {
	for i := 1; i < len(f.Messages); i++ {
		if byDevice(f.Messages[i-1], f.Messages[i]) == 0 {
			return true
		}
	}
	return false
}

// devices goes through the devices of a follower, with their messages.
func (f Follower) devices() iter.Seq2[string, []Message] {
	return func(yield func(string, []Message) bool) {
		for rest := f.Messages; len(rest) > 0; {
			device := rest[0].Device
			n := slices.IndexFunc(rest, func(m Message) bool { return m.Device != device })
			if n < 0 {
				n = len(rest)
			}
			if !yield(device, rest[:n]) {
				return
			}
			rest = rest[n:]
		}
	}
}

// Shown returns the messages that are shown.
func Shown(f Follower) ([]Message, api.Errno) {
	if e := CheckFollower(f); e != api.OK {
		return nil, e
	}
	return f.shown(), api.OK
}

func (f Follower) shown() []Message {
	var shown []Message
	for _, messages := range f.devices() {
		for i, m := range messages {
			// As numbers ascend, this is only so if none is missing up to here.
			if m.Number == i+1 {
				shown = append(shown, m)
			}
		}
	}
	return shown
}

// Gaps returns the gaps of all devices.
func Gaps(f Follower) ([]Gap, api.Errno) {
	if e := CheckFollower(f); e != api.OK {
		return nil, e
	}
	var gaps []Gap
devices:
	for device, messages := range f.devices() {
		for i, m := range messages {
			if m.Number != i+1 {
				gaps = append(gaps, Gap{device, i + 1})
				continue devices
			}
		}
	}
	return gaps, api.OK
}

// Follow returns the board that a follower shows.
func Follow(u Union, f Follower) ([]Standing, api.Errno) {
	if e := firstError(CheckUnion(u), CheckFollower(f)); e != api.OK {
		return nil, e
	}
	shown := f.shown()
	slices.SortFunc(shown, byNumber)
	r := reading{u, map[spot]api.Entry{}}
	for _, m := range shown {
		// Spots of others than members, and of holes that do not exist, are never looked up.
		r.entries[spot{m.Player, m.Hole, false}] = m.Entry
	}
	return r.board(), api.OK
}
