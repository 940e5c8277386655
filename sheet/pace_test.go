package sheet_test

import (
	"fmt"
	"math/rand"
	"slices"
	"testing"

	"niblick/api"
	"niblick/sheet"
)

func TestP8_5Examples(t *testing.T) {
	p := samplePace()
	m, e := sheet.Begins(p)
	gives(t, "Begins", m, e, matrix("0 10", "10 22"))
	m, e = sheet.Ends(p)
	gives(t, "Ends", m, e, matrix("10 22", "20 34"))
	d, e := sheet.Delays(p)
	gives(t, "Delays", d, e, []int{0, 7})
	x, e := bottleneck(p)
	gives(t, "Bottleneck", x, e, narrowest{0, 5})
}

func TestP8_5Pace(t *testing.T) {
	for _, c := range []struct {
		what         string
		p            sheet.Pace
		begins, ends [][]int
		delays       []int
		bottleneck   narrowest
	}{
		{"one group alone", sheet.Pace{Ready: []int{7}, Minutes: matrix("1 2 3"), Holds: []int{1, 1, 8}},
			matrix("7 8 10"), matrix("8 10 13"), []int{0}, narrowest{0, 0}},
		{"nobody waits", sheet.Pace{Ready: []int{0, 4}, Minutes: matrix("4 3", "4 3"), Holds: []int{1, 1}},
			matrix("0 4", "4 8"), matrix("4 7", "8 11"), []int{0, 0}, narrowest{0, 0}},
		{"a faster group stays behind on a hole for two", sheet.Pace{Ready: []int{0, 5}, Minutes: matrix("10 12", "3 12"), Holds: []int{2, 1}},
			matrix("0 10", "5 22"), matrix("10 22", "10 34"), []int{0, 14}, narrowest{1, 12}},
		{"a group that is ready sooner does not begin sooner", sheet.Pace{Ready: []int{9, 0}, Minutes: matrix("5", "1"), Holds: []int{8}},
			matrix("9", "9"), matrix("14", "14"), []int{0, 13}, narrowest{0, 9}},
		{"the third one waits for the first one", sheet.Pace{Ready: []int{0, 1, 2}, Minutes: matrix("10", "20", "5"), Holds: []int{2}},
			matrix("0", "1", "10"), matrix("10", "21", "21"), []int{0, 0, 14}, narrowest{0, 8}},
		{"the greatest wait is the last one", sheet.Pace{Ready: []int{0, 1}, Minutes: matrix("4 9 7", "4 1 7"), Holds: []int{1, 2, 1}},
			matrix("0 4 13", "4 8 20"), matrix("4 13 20", "8 13 27"), []int{0, 14}, narrowest{2, 7}},
		{"equal waits", sheet.Pace{Ready: []int{0, 1}, Minutes: matrix("4 7", "4 7"), Holds: []int{1, 1}},
			matrix("0 4", "4 11"), matrix("4 11", "8 18"), []int{0, 6}, narrowest{0, 3}},
	} {
		m, e := sheet.Begins(c.p)
		gives(t, "Begins: "+c.what, m, e, c.begins)
		m, e = sheet.Ends(c.p)
		gives(t, "Ends: "+c.what, m, e, c.ends)
		d, e := sheet.Delays(c.p)
		gives(t, "Delays: "+c.what, d, e, c.delays)
		x, e := bottleneck(c.p)
		gives(t, "Bottleneck: "+c.what, x, e, c.bottleneck)
	}
}

func TestP8_5LargestPace(t *testing.T) {
	p := sheet.Pace{Ready: slices.Repeat([]int{10000}, 24), Holds: slices.Repeat([]int{1}, 36)}
	for range 24 {
		p.Minutes = append(p.Minutes, slices.Repeat([]int{10000}, 36))
	}
	ends, e := sheet.Ends(p)
	is(t, "the last end", ok(t, ends, e)[23][35], 10000*(1+24+35))
	delays, e := sheet.Delays(p)
	is(t, "the last delay", ok(t, delays, e)[23], 10000*23)
	x, e := bottleneck(p)
	gives(t, "the bottleneck", x, e, narrowest{0, 10000 * 23 * 24 / 2})
	p.Holds = slices.Repeat([]int{8}, 36)
	begins, e := sheet.Begins(p)
	is(t, "eight at a time", ok(t, begins, e)[7][0], 10000)
	is(t, "the ninth one waits", begins[8][0], 20000)
	is(t, "the last one", begins[23][35], 10000*(1+2+35))
}

func TestP8_5ByDefinition(t *testing.T) {
	random := rand.New(rand.NewSource(8))
	late := 0
	for n := range 1500 {
		p := randomPace(random, 1+random.Intn(8), 1+random.Intn(6))
		if n%50 == 0 {
			p = randomPace(random, 24, 36)
		}
		want, what := slowPlay(p), fmt.Sprint(p)
		m, e := sheet.Begins(p)
		gives(t, "Begins of "+what, m, e, want.begin)
		m, e = sheet.Ends(p)
		gives(t, "Ends of "+what, m, e, want.end)
		d, e := sheet.Delays(p)
		gives(t, "Delays of "+what, d, e, slowDelays(p))
		x, e := bottleneck(p)
		hole, sum := slowBottleneck(p)
		gives(t, "Bottleneck of "+what, x, e, narrowest{hole, sum})
		if hole > 0 {
			late++
		}
	}
	is(t, "often a later hole", late > 100, true)
}

func TestP8_5Errors(t *testing.T) {
	p := samplePace()
	p.Holds[1] = 9
	m, e := sheet.Begins(p)
	fails(t, "Begins", m, e, api.ErrRange)
	m, e = sheet.Ends(p)
	fails(t, "Ends", m, e, api.ErrRange)
	p.Minutes[1] = p.Minutes[1][:1]
	p.Holds[1] = 8
	d, e := sheet.Delays(p)
	fails(t, "Delays", d, e, api.ErrShape)
	x, e := bottleneck(sheet.Pace{})
	fails(t, "Bottleneck", x, e, api.ErrEmpty)
}
