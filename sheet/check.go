package sheet

import (
	"cmp"
	"slices"

	"niblick/api"
	"niblick/card"
)

// maxPower is the greatest power of a matrix.
const maxPower = 64

// firstError returns the first error that is one.
func firstError(l ...api.Errno) api.Errno {
	for _, e := range l {
		if e != api.OK {
			return e
		}
	}
	return api.OK
}

// unless returns an error unless something is right.
func unless(right bool, e api.Errno) api.Errno {
	if right {
		return api.OK
	}
	return e
}

// within returns the error of an integer that is not between two others.
func within(n, least, most int) api.Errno {
	return unless(least <= n && n <= most, api.ErrRange)
}

// between returns a check of the integers of a list.
func between(least, most int) func(i, n int) api.Errno {
	return func(_, n int) api.Errno { return within(n, least, most) }
}

// paired returns the error of two lists that do not have as many elements.
func paired[A, B any](a []A, b []B) api.Errno {
	return unless(len(a) == len(b), api.ErrShape)
}

// checkEach returns the error of the first element with one.
func checkEach[T any](l []T, check func(i int, x T) api.Errno) api.Errno {
	for i, x := range l {
		if e := check(i, x); e != api.OK {
			return e
		}
	}
	return api.OK
}

// checkUpTo returns the error of a list that is too long, or that of its first element with one.
func checkUpTo[T any](l []T, most int, check func(i int, x T) api.Errno) api.Errno {
	if len(l) > most {
		return api.ErrMany
	}
	return checkEach(l, check)
}

// checkSome returns the error of a list that is empty or too long, or that of its first element with one.
func checkSome[T any](l []T, most int, check func(i int, x T) api.Errno) api.Errno {
	return firstError(unless(len(l) > 0, api.ErrEmpty), checkUpTo(l, most, check))
}

func checkMinute(minute int) api.Errno {
	return within(minute, 0, MaxMinute)
}

func checkPlaces(places int) api.Errno {
	return within(places, 1, api.MaxExact)
}

// compare compares slots by their places in a list.
func (s Slot) compare(other Slot) int {
	return cmp.Or(cmp.Compare(s.Minute, other.Minute), cmp.Compare(s.Hole, other.Hole))
}

// CheckSlots returns the first error of slots, or OK.
func CheckSlots(l []Slot) api.Errno {
	return checkUpTo(l, MaxSlots, func(i int, s Slot) api.Errno {
		return firstError(
			checkMinute(s.Minute),
			within(s.Hole, 1, api.MaxHoles),
			checkPlaces(s.Places),
			unless(i == 0 || l[i-1].compare(s) < 0, api.ErrOrder))
	})
}

// CheckRequests returns the first error of slots and requests, or OK.
func CheckRequests(l []Slot, r []Request) api.Errno {
	return firstError(CheckSlots(l), checkUpTo(r, MaxRequests, func(i int, q Request) api.Errno {
		twice := slices.ContainsFunc(r[:i], func(other Request) bool { return other.Name == q.Name })
		return firstError(
			unless(card.IsName(q.Name), api.ErrName),
			unless(!twice, api.ErrTwice),
			checkWishes(q.Wishes, len(l)))
	}))
}

func checkWishes(wishes []Wish, slots int) api.Errno {
	return checkEach(wishes, func(i int, w Wish) api.Errno {
		return firstError(
			unless(0 <= w.Slot && w.Slot < slots, api.ErrUnknown),
			unless(i == 0 || wishes[i-1].Slot < w.Slot, api.ErrOrder),
			within(w.Weight, 1, MaxWeight))
	})
}

// checkAssignment returns the first error of slots, requests and an assignment.
func checkAssignment(l []Slot, r []Request, a []int) api.Errno {
	if e := firstError(CheckRequests(l, r), paired(a, r)); e != api.OK {
		return e
	}
	served := make([]int, len(l))
	return firstError(
		checkEach(r, func(i int, q Request) api.Errno {
			if a[i] == unserved {
				return unless(!q.Guaranteed, api.ErrInfeasible)
			}
			if q.weight(a[i]) == 0 {
				return api.ErrUnknown
			}
			served[a[i]]++
			return api.OK
		}),
		checkEach(l, func(j int, s Slot) api.Errno { return unless(served[j] <= s.Places, api.ErrConflict) }))
}

// checkPrices returns the first error of what a proof consists of.
func checkPrices(l []Slot, r []Request, value int, p Prices) api.Errno {
	number := between(-api.MaxNumber, api.MaxNumber)
	return firstError(
		number(0, value),
		paired(p.Requests, r),
		paired(p.Slots, l),
		checkEach(p.Requests, number),
		checkEach(p.Slots, number))
}

// CheckPace returns the first error of a pace, or OK.
func CheckPace(p Pace) api.Errno {
	return firstError(
		checkSome(p.Ready, api.MaxStates, between(0, MaxMinute)),
		paired(p.Minutes, p.Ready),
		checkSome(p.Holds, api.MaxHoles, between(1, api.MaxExact)),
		checkEach(p.Minutes, func(_ int, row []int) api.Errno {
			return firstError(paired(row, p.Holds), checkEach(row, between(1, MaxMinute)))
		}))
}

// CheckMatrix returns the first error of a matrix, or OK.
func CheckMatrix(m [][]int) api.Errno {
	return checkUpTo(m, api.MaxStates, func(_ int, row []int) api.Errno {
		return firstError(paired(row, m), checkNumbers(row))
	})
}

// checkNumbers returns the error of the first number that cannot be in a matrix.
func checkNumbers(l []int) api.Errno {
	return checkEach(l, func(_, n int) api.Errno {
		if n == None {
			return api.OK
		}
		return within(n, -api.MaxNumber, api.MaxNumber)
	})
}

// checkRows returns the first error of a list of different rows of a matrix.
func checkRows(m [][]int, rows []int) api.Errno {
	return firstError(unless(len(rows) > 0, api.ErrEmpty), checkEach(rows, func(i, row int) api.Errno {
		return firstError(
			unless(0 <= row && row < len(m), api.ErrUnknown),
			unless(!slices.Contains(rows[:i], row), api.ErrTwice))
	}))
}
