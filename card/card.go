// Package card has numbers, units, tables, chances, equations and cards.
// It is layer 1, and chapter 1 specifies it.
package card

import "niblick/api"

// IsName reports whether a text is a name.
func IsName(s string) bool {
	if s == "" || len(s) > api.MaxName {
		return false
	}
	for i, r := range s {
		if !isLetter(r) && (i == 0 || !isDigit(r) && r != '_') {
			return false
		}
	}
	return true
}

func isLetter(r rune) bool {
	return 'A' <= r && r <= 'Z' || 'a' <= r && r <= 'z'
}

func isDigit(r rune) bool {
	return '0' <= r && r <= '9'
}

// first returns the first error that is one.
func first(l ...api.Errno) api.Errno {
	for _, e := range l {
		if e != api.OK {
			return e
		}
	}
	return api.OK
}

// unless returns an error unless something is right.
func unless(right bool, e api.Errno) api.Errno {
	if right {
		return api.OK
	}
	return e
}

// within returns the error of an integer that is not between two others.
func within(n, least, most int) api.Errno {
	return unless(least <= n && n <= most, api.ErrRange)
}

// sized returns the error of a list that is empty or too long.
func sized[T any](l []T, most int) api.Errno {
	return first(unless(len(l) > 0, api.ErrEmpty), unless(len(l) <= most, api.ErrMany))
}

// paired returns the error of two lists that do not have as many elements.
func paired[A, B any](a []A, b []B) api.Errno {
	return unless(len(a) == len(b), api.ErrShape)
}
