package course_test

import (
	"math/rand"
	"reflect"
	"slices"
	"testing"

	"niblick/api"
	"niblick/course"
)

// same compares values; nil and empty lists are equal.
func same(a, b reflect.Value) bool {
	switch a.Kind() {
	case reflect.Slice:
		if a.Len() != b.Len() {
			return false
		}
		for i := range a.Len() {
			if !same(a.Index(i), b.Index(i)) {
				return false
			}
		}
		return true
	case reflect.Struct:
		for i := range a.NumField() {
			if !same(a.Field(i), b.Field(i)) {
				return false
			}
		}
		return true
	case reflect.Interface:
		return same(a.Elem(), b.Elem())
	}
	return a.Equal(b)
}

// alike reports whether two values of one type are equal.
func alike[T any](a, b T) bool {
	return same(reflect.ValueOf(&a).Elem(), reflect.ValueOf(&b).Elem())
}

// is compares a result with what the document requires.
func is[T any](t *testing.T, what string, got, want T) {
	t.Helper()
	if !alike(got, want) {
		t.Errorf("%s: got %v, want %v", what, got, want)
	}
}

// fails checks an error, and that the result beside it is the zero value.
func fails[T any](t *testing.T, what string, got T, e, want api.Errno) {
	t.Helper()
	if e != want || !alike(got, *new(T)) {
		t.Errorf("%s: got %v and the error %d, want the error %d alone", what, got, e, want)
	}
}

// gives checks a result without an error.
func gives[T any](t *testing.T, what string, got T, e api.Errno, want T) {
	t.Helper()
	if e != api.OK || !alike(got, want) {
		t.Errorf("%s: got %v and the error %d, want %v", what, got, e, want)
	}
}

// defect spoils arguments that are right.
type defect[T any] struct {
	name  string
	spoil func(x *T)
	want  api.Errno
}

// inOrder checks that each defect has its error, and that of two defects the one that is named first decides.
func inOrder[T any](t *testing.T, fresh func() T, call func(t *testing.T, x T, want api.Errno), defects []defect[T]) {
	t.Helper()
	for i, d := range defects {
		t.Run(d.name, func(t *testing.T) {
			x := fresh()
			d.spoil(&x)
			call(t, x, d.want)
		})
		for _, later := range defects[i+1:] {
			t.Run(d.name+" and "+later.name, func(t *testing.T) {
				x := fresh()
				later.spoil(&x)
				d.spoil(&x)
				call(t, x, d.want)
			})
		}
	}
}

func at(x, y int) api.Place { return api.Place{X: x, Y: y} }

// box returns the corners of a rectangle.
func box(a, b, c, d int) []api.Place {
	return []api.Place{at(a, b), at(c, b), at(c, d), at(a, d)}
}

// far is a place that is none.
var far = at(0, api.MaxPlace+1)

// one returns the hole H of the chapter's examples.
func one() course.Hole {
	return course.Hole{Name: "one", Cup: at(100, 0), Areas: []course.Area{
		{Kind: "rough", Corners: box(-10, -20, 120, 20)},
		{Kind: "fairway", Corners: box(10, -10, 90, 10)},
		{Kind: "green", Corners: box(90, -5, 110, 5)},
		{Kind: "water", Corners: box(40, -20, 50, 20)},
	}}
}

// unnamed returns a hole with an error.
func unnamed() course.Hole {
	h := one()
	h.Name = "1"
	return h
}

// copied returns a hole that shares nothing with another one.
func copied(h course.Hole) course.Hole {
	h.Line, h.Areas = slices.Clone(h.Line), slices.Clone(h.Areas)
	for i := range h.Areas {
		h.Areas[i].Corners = slices.Clone(h.Areas[i].Corners)
	}
	return h
}

var allKinds = []string{"green", "tee", "bunker", "water", "fairway", "rough"}

// comb returns a simple polygon with so many corners, at least 4, and teeth of one length.
func comb(corners int) []api.Place {
	l := []api.Place{at(corners, -10), at(0, -10)}
	for i := range corners - 2 {
		l = append(l, at(i, i%2*5))
	}
	return l
}

// randomPlace returns a place of a square around 0, 0.
func randomPlace(random *rand.Rand, reach int) api.Place {
	return at(random.Intn(2*reach+1)-reach, random.Intn(2*reach+1)-reach)
}

// randomPolygon returns a simple polygon, often one with many corners on its lines.
func randomPolygon(random *rand.Rand, reach int) []api.Place {
	for {
		var l []api.Place
		for range 3 + random.Intn(5) {
			l = append(l, randomPlace(random, reach))
		}
		if isSimple(l) {
			return l
		}
	}
}

// randomHole returns a hole with a few areas; its tee and its cup are a corner of its first one, a green.
func randomHole(random *rand.Rand, reach int) course.Hole {
	h := course.Hole{Name: "random"}
	for i := range 2 + random.Intn(4) {
		area := course.Area{Kind: allKinds[random.Intn(len(allKinds))], Corners: randomPolygon(random, reach)}
		if i == 0 {
			area.Kind = "green"
			h.Tee, h.Cup = area.Corners[0], area.Corners[0]
		}
		h.Areas = append(h.Areas, area)
	}
	for range random.Intn(3) {
		h.Line = append(h.Line, randomPlace(random, reach))
	}
	return h
}
