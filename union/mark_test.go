package union_test

import (
	"fmt"
	"math/rand"
	"testing"

	"niblick/api"
	"niblick/union"
)

// randomUnion returns a union with marks of all kinds; nobody has signed.
func randomUnion(random *rand.Rand) union.Union {
	u := union.Union{Clubs: []string{"links", "moor"}}
	for _, i := range random.Perm(len(somePlayers))[:2+random.Intn(4)] {
		u.Members = append(u.Members, union.Member{Name: somePlayers[i], Club: pick(random, u.Clubs...), Handicap: pick(random, 0, 0, 1, -1, 7, -7, 99, -99)})
	}
	u.Holes = holes(pick(random, someHoles...))
	for range random.Intn(pick(random, 4, 30, 200)) {
		player, by := pick(random, u.Members...).Name, pick(random, u.Members...).Name
		m := union.Mark{Player: player, By: by, Hole: 1 + random.Intn(len(u.Holes)), Entry: entry(randomEntry(random))}
		if own := by == player; own || random.Intn(2) == 0 {
			// The other mark of the hole often agrees.
			if e, has := slowMark(u, player, m.Hole, !own); has && random.Intn(3) > 0 {
				m.Entry = e
			}
		}
		if _, has := slowMark(u, player, m.Hole, by == player); !has {
			u.Marks = append(u.Marks, m)
		}
	}
	return u
}

func TestP10_1Examples(t *testing.T) {
	u := sample()
	c, e := union.Card(u, "ann")
	gives(t, "the card", c, e, api.Card{Player: "ann", Entries: entries("5 3")})
	open, e := union.Open(u, "ann")
	gives(t, "the open holes", open, e, []int{2})
	differs, e := union.Differs(u, "ann")
	gives(t, "no differences", differs, e, nil)
	is(t, "an open hole", union.Signable(u, "ann"), api.ErrNone)
	u.Marks = append(u.Marks, marks("ann ann 2 4")...)
	differs, e = union.Differs(u, "ann")
	gives(t, "a difference", differs, e, []int{2})
	is(t, "a difference", union.Signable(u, "ann"), api.ErrConflict)
	u.Marks[4].Entry = entry("3")
	is(t, "no difference", union.Signable(u, "ann"), api.OK)
}

func TestP10_1Cards(t *testing.T) {
	u := fresh().union
	for _, x := range []struct {
		player, card  string
		open, differs []int
	}{
		{"ann", "5 3", nil, nil},
		{"ben", "x 99c", nil, nil},
		{"cem", "- -", []int{1, 2}, nil},
		{"dan", "4 -", []int{1, 2}, nil}, // a marker's mark of one hole, and the player's mark of the other one
	} {
		c, e := union.Card(u, x.player)
		gives(t, "the card of "+x.player, c, e, api.Card{Player: x.player, Entries: entries(x.card)})
		open, e := union.Open(u, x.player)
		gives(t, "the open holes of "+x.player, open, e, x.open)
		differs, e := union.Differs(u, x.player)
		gives(t, "the differences of "+x.player, differs, e, x.differs)
	}
	u.Holes, u.Marks, u.Signed = nil, nil, nil
	c, e := union.Card(u, "ann")
	gives(t, "a card without holes", c, e, api.Card{Player: "ann"})
	open, e := union.Open(u, "ann")
	gives(t, "open holes without holes", open, e, nil)
	differs, e := union.Differs(u, "ann")
	gives(t, "differences without holes", differs, e, nil)
	is(t, "nothing to sign", union.Signable(u, "ann"), api.ErrEmpty)
	c, e = union.Card(u, "zoe")
	fails(t, "nobody", c, e, api.ErrUnknown)
}

// Entries are the same only if their strokes and their marks are.
func TestP10_1Differences(t *testing.T) {
	u := fresh().union
	u.Signed = nil
	words := []string{"5", "5c", "4", "4c", "x", "-"}
	for i, mark := range words {
		for k, claim := range words {
			u.Marks = marks("ann ben 1 "+mark, "ann ann 1 "+claim, "ann ben 2 x", "ann ann 2 x")
			var want []int
			err := api.OK
			if i != k {
				want, err = []int{1}, api.ErrConflict
			}
			differs, e := union.Differs(u, "ann")
			gives(t, mark+" and "+claim, differs, e, want)
			is(t, mark+" and "+claim, union.Signable(u, "ann"), err)
		}
	}
}

func TestP10_1ByDefinition(t *testing.T) {
	random := rand.New(rand.NewSource(1))
	count := map[api.Errno]int{}
	for range 1500 {
		u := randomUnion(random)
		what := fmt.Sprint(u)
		is(t, what, union.CheckUnion(u), api.OK)
		for _, m := range u.Members {
			c, e := union.Card(u, m.Name)
			gives(t, what, c, e, slowCard(u, m.Name))
			open, e := union.Open(u, m.Name)
			gives(t, what, open, e, slowOpen(u, m.Name))
			differs, e := union.Differs(u, m.Name)
			gives(t, what, differs, e, slowDiffers(u, m.Name))
			err := union.Signable(u, m.Name)
			is(t, what, err, slowSignable(u, m.Name))
			count[err]++
			u.Signed = append(u.Signed, m.Name)
			is(t, what+" signed", union.CheckUnion(u), err)
			if err != api.OK {
				u.Signed = u.Signed[:len(u.Signed)-1]
			}
		}
	}
	is(t, fmt.Sprint("often each one ", count), count[api.OK] > 100 && count[api.ErrNone] > 100 && count[api.ErrConflict] > 100, true)
}

func TestP10_2Examples(t *testing.T) {
	board, e := union.Board(sample())
	gives(t, "the board", board, e, standings("ben:-1:1 ann:1:2"))
}

func TestP10_2Board(t *testing.T) {
	u := fresh().union
	u.Signed = nil
	for _, x := range []struct {
		marks []union.Mark
		want  string
	}{
		{nil, ""},
		{marks("ann ben 1 4"), "ann:0:1"},
		{marks("ann ann 1 4"), ""},                                              // the player's mark alone
		{marks("ann ben 1 -"), ""},                                              // not played
		{marks("ann ben 1 -", "ann ben 2 3"), "ann:0:1"},                        // the hole in front was not played
		{marks("ann ben 1 x"), "ann:2:1"},                                       // picked up
		{marks("ben ann 2 x"), "ben:2:1"},                                       // no strokes are given for it
		{marks("ben ann 2 5c"), "ben:1:1"},                                      // conceded strokes count
		{marks("ann ben 1 4", "ann ann 1 9"), "ann:0:1"},                        // whatever the player says
		{marks("cem ben 1 1"), "cem:47:1"},                                      // 50 strokes are taken away there
		{marks("cem ben 2 1"), "cem:47:1"},                                      // and 49 here
		{marks("dan ben 1 99", "dan ben 2 99"), "dan:92:2"},                     // 99 strokes are given
		{marks("ben ann 1 5", "ann ben 2 3"), "ann:0:1 ben:0:1"},                // in the order of the members
		{marks("ann ben 1 5", "ben ann 1 5"), "ben:0:1 ann:1:1"},                // the lesser Par
		{marks("ann ben 1 4", "ben ann 1 5", "ben ann 2 4"), "ben:0:2 ann:0:1"}, // the greater Through
		{marks("ann ben 1 4", "ben ann 1 6", "ben ann 2 4"), "ann:0:1 ben:1:2"},
		{marks("ann ben 1 4", "ann ben 2 3", "ben ann 1 x", "ben ann 2 2"), "ann:0:2 ben:0:2"},
	} {
		u.Marks = x.marks
		board, e := union.Board(u)
		gives(t, fmt.Sprint(x.marks), board, e, standings(x.want))
	}
	u.Holes, u.Marks = nil, nil
	board, e := union.Board(u)
	gives(t, "without holes", board, e, nil)
	board, e = union.Board(union.Union{})
	gives(t, "of nobody", board, e, nil)
}

func TestP10_2ByDefinition(t *testing.T) {
	random := rand.New(rand.NewSource(2))
	ties := 0
	for range 2000 {
		u := randomUnion(random)
		board, e := union.Board(u)
		want := slowBoard(u)
		gives(t, fmt.Sprint(u), board, e, want)
		for i := range want[:max(0, len(want)-1)] {
			if want[i].Par == want[i+1].Par {
				ties++
			}
		}
	}
	is(t, fmt.Sprint("often tied ", ties), ties > 150, true)
	u := fullUnion()
	board, e := union.Board(u)
	gives(t, "a large one", board, e, slowBoard(u))
}
