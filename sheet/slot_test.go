package sheet_test

import (
	"fmt"
	"math"
	"testing"

	"niblick/api"
	"niblick/sheet"
)

func TestP8_1Examples(t *testing.T) {
	l, e := sheet.Starts(480, 500, 10, 2)
	gives(t, "Starts", l, e, slots("480 1 2", "490 1 2", "500 1 2"))
	light, e := sheet.Daylight(sampleSlots(), 485, 800, 240)
	gives(t, "Daylight", light, e, []int{1})
}

func TestP8_1Starts(t *testing.T) {
	for _, c := range []struct {
		first, last, interval, places int
		want                          []sheet.Slot
	}{
		{0, 0, 1, 1, slots("0 1 1")},
		{10000, 10000, 10000, 8, slots("10000 1 8")},
		{0, 10000, 10000, 8, slots("0 1 8", "10000 1 8")},
		{1, 10000, 10000, 8, slots("1 1 8")},
		{7, 12, 2, 3, slots("7 1 3", "9 1 3", "11 1 3")},
		{7, 13, 2, 3, slots("7 1 3", "9 1 3", "11 1 3", "13 1 3")},
		{5, 8, 4, 1, slots("5 1 1")},
		{5, 9, 4, 1, slots("5 1 1", "9 1 1")},
	} {
		l, e := sheet.Starts(c.first, c.last, c.interval, c.places)
		gives(t, fmt.Sprint(c), l, e, c.want)
	}
	l, e := sheet.Starts(100, 123, 1, 1)
	is(t, "24 slots", len(ok(t, l, e)), 24)
	is(t, "the last of them", l[23], slots("123 1 1")[0])
	is(t, "24 slots are slots", sheet.CheckSlots(l), api.OK)
	for _, c := range []struct {
		first, last, interval, places int
		want                          api.Errno
	}{
		{100, 124, 1, 1, api.ErrMany},
		{0, 240, 10, 1, api.ErrMany},
		{0, 10000, 1, 1, api.ErrMany},
		{1, 0, 1, 1, api.ErrOrder},
		{10000, 0, 10000, 1, api.ErrOrder},
		{-1, 0, 1, 1, api.ErrRange},
		{10001, 10001, 1, 1, api.ErrRange},
		{0, 10001, 1, 1, api.ErrRange},
		{0, -1, 1, 1, api.ErrRange},
		{1, 0, 0, 1, api.ErrRange},
		{1, 0, 10001, 1, api.ErrRange},
		{1, 0, 1, 0, api.ErrRange},
		{0, 10000, 1, 9, api.ErrRange},
		{math.MinInt, math.MaxInt, 1, 1, api.ErrRange},
		{0, 1, math.MinInt, 1, api.ErrRange},
		{0, 1, math.MaxInt, math.MaxInt, api.ErrRange},
	} {
		l, e := sheet.Starts(c.first, c.last, c.interval, c.places)
		fails(t, fmt.Sprint(c), l, e, c.want)
	}
}

func TestP8_1Shotgun(t *testing.T) {
	l, e := sheet.Shotgun(540, 3, 2)
	gives(t, "three holes", l, e, slots("540 1 2", "540 2 2", "540 3 2"))
	l, e = sheet.Shotgun(0, 1, 1)
	gives(t, "one hole", l, e, slots("0 1 1"))
	for holes := range 24 {
		l, e := sheet.Shotgun(10000, holes+1, 8)
		is(t, "slots", sheet.CheckSlots(ok(t, l, e)), api.OK)
		is(t, "as many as holes", len(l), holes+1)
		is(t, "the last one", l[holes], sheet.Slot{Minute: 10000, Hole: holes + 1, Places: 8})
	}
	for _, c := range [][3]int{
		{-1, 1, 1}, {10001, 1, 1}, {0, 0, 1}, {0, 25, 1}, {0, 36, 1}, {0, 1, 0}, {0, 1, 9}, {0, -1, 1},
		{math.MinInt, 1, 1}, {math.MaxInt, 1, 1}, {0, math.MinInt, 1}, {0, math.MaxInt, 1}, {0, 1, math.MinInt}, {0, 1, math.MaxInt},
	} {
		l, e := sheet.Shotgun(c[0], c[1], c[2])
		fails(t, fmt.Sprint(c), l, e, api.ErrRange)
	}
}

func TestP8_1Daylight(t *testing.T) {
	l := slots("0 1 1", "480 1 1", "480 10 8", "490 1 2", "500 1 1", "10000 1 1")
	for _, c := range []struct {
		sunrise, sunset, round int
		want                   []int
	}{
		{0, 10000, 0, []int{0, 1, 2, 3, 4, 5}},
		{0, 10000, 1, []int{0, 1, 2, 3, 4}},
		{480, 740, 240, []int{1, 2, 3, 4}},
		{481, 740, 240, []int{3, 4}},
		{480, 739, 240, []int{1, 2, 3}},
		{490, 730, 240, []int{3}},
		{490, 729, 240, nil},
		{0, 0, 0, []int{0}},
		{1, 0, 0, nil},
		{0, 10000, 10000, []int{0}},
		{10000, 10000, 0, []int{5}},
		{10000, 10000, 1, nil},
		{500, 480, 0, nil},
	} {
		light, e := sheet.Daylight(l, c.sunrise, c.sunset, c.round)
		gives(t, fmt.Sprint(c), light, e, c.want)
	}
	light, e := sheet.Daylight(nil, 0, 0, 0)
	gives(t, "no slots", light, e, nil)
	for _, c := range [][3]int{
		{-1, 0, 0}, {10001, 0, 0}, {0, -1, 0}, {0, 10001, 0}, {0, 0, -1}, {0, 0, 10001},
		{0, 0, math.MaxInt}, {0, 0, math.MinInt}, {math.MinInt, math.MaxInt, 0},
	} {
		light, e := sheet.Daylight(l, c[0], c[1], c[2])
		fails(t, fmt.Sprint(c), light, e, api.ErrRange)
		light, e = sheet.Daylight(make([]sheet.Slot, 25), c[0], c[1], c[2])
		fails(t, fmt.Sprint("slots before ", c), light, e, api.ErrMany)
	}
}
