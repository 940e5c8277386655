package union

import (
	"slices"

	"niblick/api"
)

// spot is where a mark stands: a player, a hole, and whether it is the player's own mark. There is at most one mark for a spot.
type spot struct {
	player string
	hole   int
	own    bool
}

func (m Mark) spot() spot {
	return spot{m.Player, m.Hole, m.By == m.Player}
}

// reading is a union with entries for spots: those of its marks, or of messages in their place.
type reading struct {
	Union
	entries map[spot]api.Entry
}

// read returns the reading of the marks of a union.
func (u Union) read() reading {
	r := reading{u, map[spot]api.Entry{}}
	for _, m := range u.Marks {
		r.entries[m.spot()] = m.Entry
	}
	return r
}

// readPlayer returns the reading of a union with this member, or the first error of both.
func readPlayer(u Union, player string) (reading, api.Errno) {
	if e := CheckUnion(u); e != api.OK {
		return reading{}, e
	}
	return u.read(), u.knows(player)
}

// Card returns the card of a member.
func Card(u Union, player string) (api.Card, api.Errno) {
	r, e := readPlayer(u, player)
	if e != api.OK {
		return api.Card{}, e
	}
	return r.card(player), api.OK
}

func (r reading) card(player string) api.Card {
	c := api.Card{Player: player}
	for i := range r.Holes {
		entry, marked := r.entries[spot{player, i + 1, false}]
		if !marked {
			entry = api.Entry{Mark: unplayed}
		}
		c.Entries = append(c.Entries, entry)
	}
	return c
}

// Open returns the open holes of a member.
func Open(u Union, player string) ([]int, api.Errno) {
	r, e := readPlayer(u, player)
	if e != api.OK {
		return nil, e
	}
	return r.open(player), api.OK
}

func (r reading) open(player string) []int {
	var holes []int
	for i := range r.Holes {
		_, marked := r.entries[spot{player, i + 1, false}]
		_, claimed := r.entries[spot{player, i + 1, true}]
		if !marked || !claimed {
			holes = append(holes, i+1)
		}
	}
	return holes
}

// Differs returns the holes of a member that differ.
func Differs(u Union, player string) ([]int, api.Errno) {
	r, e := readPlayer(u, player)
	if e != api.OK {
		return nil, e
	}
	return r.differs(player), api.OK
}

func (r reading) differs(player string) []int {
	var holes []int
	for i := range r.Holes {
		mark, marked := r.entries[spot{player, i + 1, false}]
		claim, claimed := r.entries[spot{player, i + 1, true}]
		if marked && claimed && mark != claim {
			holes = append(holes, i+1)
		}
	}
	return holes
}

// Signable returns OK for a member who can sign.
func Signable(u Union, player string) api.Errno {
	r, e := readPlayer(u, player)
	if e != api.OK {
		return e
	}
	return r.signable(player)
}

func (r reading) signable(player string) api.Errno {
	return firstError(
		unless(len(r.Holes) > 0, api.ErrEmpty),
		unless(len(r.open(player)) == 0, api.ErrNone),
		unless(len(r.differs(player)) == 0, api.ErrConflict))
}

// with returns a union with a mark, in the place of an earlier one for its spot or else behind all others.
func (u Union) with(m Mark) Union {
	i := slices.IndexFunc(u.Marks, func(other Mark) bool { return other.spot() == m.spot() })
	if i < 0 {
		u.Marks = joined(u.Marks, m)
		return u
	}
	u.Marks = slices.Clone(u.Marks)
	u.Marks[i] = m
	return u
}

// marker returns by whom the marker's mark of a hole is, or would be if a ruling made it.
func (u Union) marker(player string, hole int) (string, api.Errno) {
	for _, m := range u.Marks {
		if (m.spot() == spot{player, hole, false}) {
			return m.By, api.OK
		}
	}
	for _, m := range u.Members {
		if m.Name != player {
			return m.Name, api.OK
		}
	}
	return "", api.ErrNone
}
