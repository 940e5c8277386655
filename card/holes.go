package card

import (
	"strconv"

	"niblick/api"
)

// The range of a par.
const (
	leastPar = 3
	mostPar  = 6
)

// mark says which strokes an entry with a mark has, and which word.
type mark struct {
	fits func(strokes int) bool
	word func(strokes int) string
}

func marks() map[string]mark {
	played := func(strokes int) bool { return 1 <= strokes && strokes <= api.MaxStrokes }
	unplayed := func(strokes int) bool { return strokes == 0 }
	return map[string]mark{
		"":  {played, strconv.Itoa},
		"c": {played, func(strokes int) string { return strconv.Itoa(strokes) + "c" }},
		"x": {unplayed, func(int) string { return "x" }},
		"-": {unplayed, func(int) string { return "-" }},
	}
}

// CheckHoles returns the first error of holes, or OK.
func CheckHoles(h []api.Hole) api.Errno {
	if e := sized(h, api.MaxHoles); e != api.OK {
		return e
	}
	taken := map[int]bool{}
	for _, hole := range h {
		e := first(
			within(hole.Par, leastPar, mostPar),
			within(hole.Index, 1, len(h)),
			unless(!taken[hole.Index], api.ErrTwice))
		if e != api.OK {
			return e
		}
		taken[hole.Index] = true
	}
	return api.OK
}

// CheckCard returns the first error of a card of holes, or OK.
func CheckCard(h []api.Hole, c api.Card) api.Errno {
	return first(
		CheckHoles(h),
		unless(IsName(c.Player), api.ErrName),
		paired(c.Entries, h),
		checkEntries(c.Entries))
}

func checkEntries(l []api.Entry) api.Errno {
	for _, entry := range l {
		if e := checkEntry(entry); e != api.OK {
			return e
		}
	}
	return api.OK
}

func checkEntry(entry api.Entry) api.Errno {
	m, known := marks()[entry.Mark]
	if !known {
		return api.ErrKind
	}
	return unless(m.fits(entry.Strokes), api.ErrRange)
}
