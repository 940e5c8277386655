package play

import (
	"cmp"
	"iter"
	"slices"

	"niblick/api"
)

// inForce goes through the acts in force, with the numbers of the items in whose places they stand.
func inForce(l []Item) iter.Seq2[int, Act] {
	return func(yield func(int, Act) bool) {
	items:
		for i, item := range l {
			if item.Replaces != 0 {
				continue
			}
			for _, ruling := range slices.Backward(l[i+1:]) {
				switch {
				case ruling.Replaces != i+1:
					continue
				case ruling.Void:
					continue items
				}
				item = ruling
				break
			}
			if !yield(i+1, item.Act) {
				return
			}
		}
	}
}

// idle returns the refusals of the rulings that name no act ahead of them.
func idle(l []Item) []Refusal {
	var refusals []Refusal
	for i, item := range l {
		if item.Replaces > i || item.Replaces != 0 && l[item.Replaces-1].Replaces != 0 {
			refusals = append(refusals, Refusal{Item: i + 1})
		}
	}
	return refusals
}

// played goes through the acts in force as they are played: the rule that refuses each one, or 0, and the game behind it.
func (s Setup) played(l []Item) iter.Seq2[Refusal, game] {
	return func(yield func(Refusal, game) bool) {
		g := s.start()
		for number, a := range inForce(l) {
			rule := g.refusal(a)
			if rule == 0 {
				g = g.after(a)
			}
			if !yield(Refusal{number, rule}, g) {
				return
			}
		}
	}
}

// InForce returns the acts of a log behind all rulings, and the numbers of their items.
func InForce(s Setup, l []Item) ([]Act, []int, api.Errno) {
	if e := CheckLog(s, l); e != api.OK {
		return nil, nil, e
	}
	var acts []Act
	var numbers []int
	for number, a := range inForce(l) {
		acts, numbers = append(acts, a), append(numbers, number)
	}
	return acts, numbers, api.OK
}

// Replay returns the state behind a log, and what was set aside.
func Replay(s Setup, l []Item) (State, []Refusal, api.Errno) {
	if e := CheckLog(s, l); e != api.OK {
		return State{}, nil, e
	}
	x, aside := s.replay(l)
	return x, aside, api.OK
}

func (s Setup) replay(l []Item) (State, []Refusal) {
	x, aside := s.start().State, idle(l)
	for refusal, g := range s.played(l) {
		x = g.State
		if refusal.Rule != 0 {
			aside = append(aside, refusal)
		}
	}
	slices.SortFunc(aside, func(a, b Refusal) int { return cmp.Compare(a.Item, b.Item) })
	return x, aside
}

// Running returns the score of a player behind each act in force.
func Running(s Setup, l []Item, player int) ([]int, api.Errno) {
	if e := first(CheckLog(s, l), s.checkPlayer(player)); e != api.OK {
		return nil, e
	}
	var scores []int
	for _, g := range s.played(l) {
		scores = append(scores, g.Balls[player].score())
	}
	return scores, api.OK
}

// checkNumber returns the error of a number about whose item there can be no ruling.
func checkNumber(l []Item, number int) api.Errno {
	if number < 1 || number > len(l) {
		return api.ErrUnknown
	}
	return first(
		unless(l[number-1].Replaces == 0, api.ErrKind),
		unless(len(l) < api.MaxList, api.ErrMany))
}

// ruled returns a log with a ruling behind it, or the error of the number that this names.
func ruled(l []Item, ruling Item) ([]Item, api.Errno) {
	if e := checkNumber(l, ruling.Replaces); e != api.OK {
		return nil, e
	}
	return slices.Concat(l, []Item{ruling}), api.OK
}

// Correct returns a log with a ruling that an act stands in the place of an item.
func Correct(s Setup, l []Item, number int, a Act) ([]Item, api.Errno) {
	if e := first(CheckLog(s, l), s.checkAct(a)); e != api.OK {
		return nil, e
	}
	return ruled(l, Item{Replaces: number, Act: a})
}

// Cancel returns a log with a ruling that an item is void.
func Cancel(s Setup, l []Item, number int) ([]Item, api.Errno) {
	if e := CheckLog(s, l); e != api.OK {
		return nil, e
	}
	return ruled(l, Item{Replaces: number, Void: true})
}

// Changed returns the players whose entries a correction changes.
func Changed(s Setup, l []Item, number int, a Act) ([]int, api.Errno) {
	corrected, e := Correct(s, l, number, a)
	if e != api.OK {
		return nil, e
	}
	before, _ := s.replay(l)
	behind, _ := s.replay(corrected)
	entries := behind.entries()
	var players []int
	for player, entry := range before.entries() {
		if entry != entries[player] {
			players = append(players, player)
		}
	}
	return players, api.OK
}
