package event

import (
	"niblick/api"
)

// kind says which fields an act of a kind has, between which numbers its value is, and how a book records it.
type kind struct {
	hasPlayer   bool
	hasRound    bool
	least, most int
	record      func(b *book, at int, a Act) (counts bool)
}

func kinds() map[string]kind {
	return map[string]kind{
		"enter": {hasPlayer: true, most: 1, record: (*book).enter},
		"score": {hasPlayer: true, hasRound: true, least: 1, most: maxScore, record: (*book).score},
		out:     {hasPlayer: true, record: (*book).leave},
		dis:     {hasPlayer: true, record: (*book).leave},
		cut:     {hasRound: true, least: 1, most: api.MaxPlayers, record: (*book).cut},
		"void":  {hasRound: true, record: (*book).void},
	}
}

func (k kind) checkPlayer(player string) api.Errno {
	if k.hasPlayer {
		return checkName(player)
	}
	return unless(player == "", api.ErrForm)
}

func (k kind) checkRound(round int) api.Errno {
	if k.hasRound {
		return within(round, 1, maxRounds)
	}
	return within(round, 0, 0)
}

// CheckAct returns the first error of an act, or OK.
func CheckAct(a Act) api.Errno {
	k, known := kinds()[a.Kind]
	return first(
		unless(known, api.ErrKind),
		k.checkPlayer(a.Player),
		k.checkRound(a.Round),
		within(a.Value, k.least, k.most))
}

// turn is a round of a player.
type turn struct {
	player string
	round  int
}

// book is what acts have recorded so far.
type book struct {
	lines  []Line
	number map[string]int     // of the line of a player who has entered
	scores map[turn][]int     // the places of the acts with the scores that count so far
	cuts   [1 + maxRounds]int // the places of the cut after each round, 0 if there is none
	aside  []int              // the places of the acts that are set aside
}

func (b *book) enter(_ int, a Act) bool {
	if _, entered := b.number[a.Player]; entered {
		return false
	}
	b.number[a.Player] = len(b.lines)
	b.lines = append(b.lines, Line{Player: a.Player, Amateur: a.Value == 1})
	return true
}

func (b *book) score(at int, a Act) bool {
	if _, entered := b.number[a.Player]; !entered {
		return false
	}
	t := turn{a.Player, a.Round}
	b.scores[t] = append(b.scores[t], at)
	return true
}

// leave records that a player is out, or dis.
func (b *book) leave(_ int, a Act) bool {
	i, entered := b.number[a.Player]
	if entered {
		b.lines[i].State = a.Kind
	}
	return entered
}

func (b *book) cut(_ int, a Act) bool {
	b.cuts[a.Round] = a.Value
	return true
}

func (b *book) void(_ int, a Act) bool {
	for _, line := range b.lines {
		t := turn{line.Player, a.Round}
		b.aside = append(b.aside, b.scores[t]...)
		delete(b.scores, t)
	}
	return true
}
