package event_test

import (
	"math/big"
	"slices"

	"niblick/api"
	"niblick/card"
	"niblick/event"
)

// Slow functions that follow the definitions of the chapter word by word, for arguments without errors.

func slowBallot(n, key int) []int {
	order := upTo(n)
	x := big.NewInt(int64(key))
	for i := n - 1; i >= 1; i-- {
		x.Mod(x.Mul(x, big.NewInt(48271)), big.NewInt(2147483647))
		at := int(new(big.Int).Mod(x, big.NewInt(int64(i+1))).Int64())
		order[i], order[at] = order[at], order[i]
	}
	return order
}

func bigRat(a api.Rat) *big.Rat {
	x, ok := new(big.Rat).SetString(string(a))
	if !ok {
		panic("no number: " + a)
	}
	return x
}

// slowByIndex takes the first of those with the least index, one after another.
func slowByIndex(l []event.Entry, order []int) []int {
	var sorted []int
	for left := slices.Clone(order); len(left) > 0; {
		next := 0
		for i, n := range left {
			if bigRat(l[n].Index).Cmp(bigRat(l[left[next]].Index)) < 0 {
				next = i
			}
		}
		sorted = append(sorted, left[next])
		left = slices.Delete(left, next, next+1)
	}
	return sorted
}

func slowOrder(l []event.Entry, rule string, key int) []int {
	var order, others, drawn []int
	for i, x := range l {
		if x.Exempt {
			order = append(order, i)
		} else {
			others = append(others, i)
		}
	}
	for _, i := range slowBallot(len(others), key) {
		drawn = append(drawn, others[i])
	}
	if rule == "index" {
		drawn = slowByIndex(l, drawn)
	}
	return append(order, drawn...)
}

// slowSubstitute takes out those who are gone one by one.
func slowSubstitute(in, reserves, gone []int) two {
	in, reserves = slices.Clone(in), slices.Clone(reserves)
	free := 0
	for _, n := range gone {
		if i := slices.Index(in, n); i >= 0 {
			in = slices.Delete(in, i, i+1)
			free++
		}
		if i := slices.Index(reserves, n); i >= 0 {
			reserves = slices.Delete(reserves, i, i+1)
		}
	}
	for free > 0 && len(reserves) > 0 {
		in, reserves = append(in, reserves[0]), reserves[1:]
		free--
	}
	return two{in, reserves}
}

// slowQualify asks of everyone whether the best, and the worst, decision of all ties leads to a place.
func slowQualify(totals []int, places int) qualified {
	var q qualified
	for i, total := range totals {
		better, asGood := 0, 0
		for _, other := range totals {
			if other < total {
				better++
			}
			if other <= total {
				asGood++
			}
		}
		switch {
		case asGood <= places:
			q.in = append(q.in, i)
		case better < places:
			q.tied = append(q.tied, i)
		}
	}
	if len(q.tied) > 0 {
		q.left = places - len(q.in)
	}
	return q
}

// slowBracket makes the bracket of slots from that of half as many.
func slowBracket(n int) []int {
	slots := 1
	for slots < n {
		slots *= 2
	}
	var of func(slots int) []int
	of = func(slots int) []int {
		if slots == 1 {
			return []int{1}
		}
		var l []int
		for _, s := range of(slots / 2) {
			l = append(l, s, slots+1-s)
		}
		return l
	}
	l := of(slots)
	for i, s := range l {
		if s > n {
			l[i] = 0
		}
	}
	return l
}

func isRanked(line event.Line) bool {
	return line.State != "out" && line.State != "dis"
}

func isBetter(a, b event.Line) bool {
	if len(a.Scores) != len(b.Scores) {
		return len(a.Scores) > len(b.Scores)
	}
	return sum(a.Scores) < sum(b.Scores)
}

// slowRank returns the rank of a line among others, or 0.
func slowRank(l []event.Line, line event.Line) int {
	if !isRanked(line) {
		return 0
	}
	rank := 1
	for _, other := range l {
		if isRanked(other) && isBetter(other, line) {
			rank++
		}
	}
	return rank
}

func slowPlaces(l []event.Line) []event.Place {
	var places []event.Place
	for rank := 1; rank <= len(l); rank++ {
		for i, line := range l {
			if slowRank(l, line) == rank {
				places = append(places, event.Place{Line: i, Rank: rank, Total: sum(line.Scores)})
			}
		}
	}
	return places
}

// slowCut returns who remains, and the cut line, of a field of which someone has no state, and all such have enough scores.
func slowCut(l []event.Line, r event.Rule) remaining {
	var totals []int
	for _, line := range l {
		if line.State == "" {
			totals = append(totals, sum(line.Scores[:r.After]))
		}
	}
	slices.Sort(totals)
	cutLine := totals[len(totals)-1]
	if r.Places <= len(totals) {
		cutLine = totals[r.Places-1]
	}
	if r.Within != -1 && totals[0]+r.Within > cutLine {
		cutLine = totals[0] + r.Within
	}
	result := remaining{line: cutLine}
	for i, line := range l {
		if line.State == "" && sum(line.Scores[:r.After]) <= cutLine {
			result.in = append(result.in, i)
		}
	}
	return result
}

func slowMiss(l []event.Line, r event.Rule) []event.Line {
	remain := slowCut(l, r).in
	var after []event.Line
	for i, line := range l {
		line.Scores = slices.Clone(line.Scores)
		if line.State == "" && !slices.Contains(remain, i) {
			line.State, line.Scores = "cut", line.Scores[:r.After]
		}
		after = append(after, line)
	}
	return after
}

// slowPrizes looks for those with the same rank anew for each line.
func slowPrizes(l []event.Line, purse []int) []int {
	won := make([]int, len(l))
	var professionals []event.Line
	for _, line := range l {
		if !line.Amateur {
			professionals = append(professionals, line)
		}
	}
	for i, line := range l {
		rank := slowRank(professionals, line)
		if line.Amateur || rank == 0 {
			continue
		}
		var weights []int
		own, amounts := 0, 0
		for j, other := range l {
			if !other.Amateur && slowRank(professionals, other) == rank {
				if j == i {
					own = len(weights)
				}
				weights = append(weights, 1)
			}
		}
		for r := rank; r < rank+len(weights); r++ {
			if r <= len(purse) {
				amounts += purse[r-1]
			}
		}
		shares, _ := card.Shares(amounts, weights)
		won[i] = shares[own]
	}
	return won
}

// history is a list of acts of which each question is asked of the whole list.
type history []event.Act

// hasEntered reports whether a player enters before a place.
func (h history) hasEntered(player string, before int) bool {
	return slices.ContainsFunc(h[:before], func(a event.Act) bool { return a.Kind == "enter" && a.Player == player })
}

// isVoid reports whether the scores of a round are void after a place.
func (h history) isVoid(round, after int) bool {
	return slices.ContainsFunc(h[after:], func(a event.Act) bool { return a.Kind == "void" && a.Round == round })
}

// recorded returns the place of the score of a player and a round that is recorded, or -1.
func (h history) recorded(player string, round int) int {
	last := -1
	for at, a := range h {
		if a.Kind == "score" && a.Player == player && a.Round == round && h.hasEntered(player, at) && !h.isVoid(round, at) {
			last = at
		}
	}
	return last
}

// state returns the state of a player who has not missed a cut.
func (h history) state(player string) string {
	state := ""
	for at, a := range h {
		if (a.Kind == "out" || a.Kind == "dis") && a.Player == player && h.hasEntered(player, at) {
			state = a.Kind
		}
	}
	return state
}

// cut returns the places of the cut after a round, or 0.
func (h history) cut(round int) int {
	places := 0
	for _, a := range h {
		if a.Kind == "cut" && a.Round == round {
			places = a.Value
		}
	}
	return places
}

func slowReplay(l []event.Act) event.Standing {
	h := history(l)
	var s event.Standing
	for at, a := range h {
		entered := h.hasEntered(a.Player, at)
		switch a.Kind {
		case "enter":
			if entered {
				s.Aside = append(s.Aside, at)
			} else {
				s.Lines = append(s.Lines, event.Line{Player: a.Player, Amateur: a.Value == 1, State: h.state(a.Player)})
			}
		case "score":
			if !entered || h.isVoid(a.Round, at) {
				s.Aside = append(s.Aside, at)
			}
		case "out", "dis":
			if !entered {
				s.Aside = append(s.Aside, at)
			}
		}
	}
	for round := 1; round <= 8; round++ {
		for i, line := range s.Lines {
			at := h.recorded(line.Player, round)
			switch {
			case at < 0:
			case line.State == "cut", len(line.Scores) != round-1:
				s.Aside = append(s.Aside, at)
			default:
				s.Lines[i].Scores = append(s.Lines[i].Scores, h[at].Value)
			}
		}
		if places := h.cut(round); places > 0 {
			slowStandingCut(s.Lines, round, places)
		}
	}
	slices.Sort(s.Aside)
	return s
}

// slowStandingCut makes a cut among the players who have all scores, and changes the states of those who miss it.
func slowStandingCut(l []event.Line, round, places int) {
	var candidates []event.Line
	var numbers []int
	for i, line := range l {
		if line.State == "" && len(line.Scores) == round {
			candidates, numbers = append(candidates, line), append(numbers, i)
		}
	}
	if len(candidates) == 0 {
		return
	}
	var remain []int
	for _, i := range slowCut(candidates, event.Rule{After: round, Places: places, Within: -1}).in {
		remain = append(remain, numbers[i])
	}
	for i, line := range l {
		if line.State == "" && !slices.Contains(remain, i) {
			l[i].State = "cut"
		}
	}
}

func slowChanged(a, b []event.Act, purse []int) []string {
	type outcome struct {
		lines       []event.Line
		rank, prize int
	}
	find := func(s event.Standing, player string) outcome {
		won := slowPrizes(s.Lines, purse)
		for i, line := range s.Lines {
			if line.Player == player {
				return outcome{[]event.Line{line}, slowRank(s.Lines, line), won[i]}
			}
		}
		return outcome{}
	}
	before, after := slowReplay(a), slowReplay(b)
	var all, changed []string
	for _, line := range slices.Concat(before.Lines, after.Lines) {
		all = append(all, line.Player)
	}
	slices.Sort(all)
	for _, player := range slices.Compact(all) {
		if !alike(find(before, player), find(after, player)) {
			changed = append(changed, player)
		}
	}
	return changed
}
