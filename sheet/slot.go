package sheet

import "niblick/api"

// Starts returns slots at intervals on the first hole.
func Starts(first, last, interval, places int) ([]Slot, api.Errno) {
	e := firstError(
		checkMinute(first),
		checkMinute(last),
		within(interval, 1, MaxMinute),
		checkPlaces(places),
		unless(first <= last, api.ErrOrder))
	if e != api.OK {
		return nil, e
	}
	var l []Slot
	for minute := first; minute <= last; minute += interval {
		l = append(l, Slot{Minute: minute, Hole: 1, Places: places})
	}
	if len(l) > MaxSlots {
		return nil, api.ErrMany
	}
	return l, api.OK
}

// Shotgun returns slots on all holes at one minute.
func Shotgun(minute, holes, places int) ([]Slot, api.Errno) {
	e := firstError(checkMinute(minute), within(holes, 1, MaxSlots), checkPlaces(places))
	if e != api.OK {
		return nil, e
	}
	var l []Slot
	for i := range holes {
		l = append(l, Slot{Minute: minute, Hole: i + 1, Places: places})
	}
	return l, api.OK
}

// Daylight returns the slots whose rounds are between sunrise and sunset.
func Daylight(l []Slot, sunrise, sunset, round int) ([]int, api.Errno) {
	e := firstError(CheckSlots(l), checkMinute(sunrise), checkMinute(sunset), checkMinute(round))
	if e != api.OK {
		return nil, e
	}
	var light []int
	for i, s := range l {
		if s.Minute >= sunrise && s.Minute+round <= sunset {
			light = append(light, i)
		}
	}
	return light, api.OK
}
