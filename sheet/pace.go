package sheet

import "niblick/api"

// visit has the minutes at which a group comes to a hole, begins it and ends it.
type visit struct {
	come  int
	begin int
	end   int
}

// visits returns the visits of all groups, by holes.
func visits(p Pace) [][]visit {
	var groups [][]visit
	// As no minute is below 0, nobody has to wait for groups that do not exist.
	at := func(group, hole int) visit {
		if group < 0 {
			return visit{}
		}
		return groups[group][hole]
	}
	for g, come := range p.Ready {
		holes := make([]visit, len(p.Holds))
		for h, holds := range p.Holds {
			begin := max(come, at(g-1, h).begin, at(g-holds, h).end)
			end := max(begin+p.Minutes[g][h], at(g-1, h).end)
			holes[h] = visit{come, begin, end}
			come = end
		}
		groups = append(groups, holes)
	}
	return groups
}

// minutesOf returns a minute of each visit, or the first error of a pace.
func minutesOf(p Pace, minute func(v visit) int) ([][]int, api.Errno) {
	if e := CheckPace(p); e != api.OK {
		return nil, e
	}
	return eachOf(visits(p), func(_ int, holes []visit) []int {
		return eachOf(holes, func(_ int, v visit) int { return minute(v) })
	}), api.OK
}

// Begins returns the minutes at which groups begin the holes.
func Begins(p Pace) ([][]int, api.Errno) {
	return minutesOf(p, func(v visit) int { return v.begin })
}

// Ends returns the minutes at which groups end the holes.
func Ends(p Pace) ([][]int, api.Errno) {
	return minutesOf(p, func(v visit) int { return v.end })
}

// Delays returns the delay of each group.
func Delays(p Pace) ([]int, api.Errno) {
	ends, e := Ends(p)
	return eachOf(ends, func(g int, holes []int) int {
		return holes[len(holes)-1] - p.Ready[g] - sumOf(p.Minutes[g])
	}), e
}

// Bottleneck returns the hole at which groups wait longest, and the sum of their waits.
func Bottleneck(p Pace) (int, int, api.Errno) {
	waits, e := minutesOf(p, func(v visit) int { return v.begin - v.come })
	if e != api.OK {
		return 0, 0, e
	}
	longest, most := 0, 0
	for h := range p.Holds {
		sum := sumOf(eachOf(waits, func(_ int, holes []int) int { return holes[h] }))
		if sum > most {
			longest, most = h, sum
		}
	}
	return longest, most, api.OK
}
