package course

import (
	"slices"

	"niblick/api"
)

// transformation says where a place comes to.
type transformation struct {
	place func(p api.Place) api.Place
}

// hole returns the hole with all its places where they come to.
func (t transformation) hole(h Hole) Hole {
	h.Tee, h.Cup, h.Line = t.place(h.Tee), t.place(h.Cup), t.places(h.Line)
	h.Areas = slices.Clone(h.Areas)
	for i, area := range h.Areas {
		h.Areas[i].Corners = t.places(area.Corners)
	}
	return h
}

func (t transformation) places(l []api.Place) []api.Place {
	var come []api.Place
	for _, p := range l {
		come = append(come, t.place(p))
	}
	return come
}

// Moved returns a moved hole.
func Moved(h Hole, by api.Place) (Hole, api.Errno) {
	if e := first(CheckHole(h), checkPlaces(by)); e != api.OK {
		return Hole{}, e
	}
	moved := transformation{func(p api.Place) api.Place {
		return api.Place{X: p.X + by.X, Y: p.Y + by.Y}
	}}.hole(h)
	// What is moved as a whole remains a hole, as long as its places are in range.
	if e := CheckHole(moved); e != api.OK {
		return Hole{}, e
	}
	return moved, api.OK
}

// Turned returns a hole that is turned by quarters.
func Turned(h Hole, quarters int) (Hole, api.Errno) {
	if e := CheckHole(h); e != api.OK {
		return Hole{}, e
	}
	ways := [4]transformation{
		{func(p api.Place) api.Place { return p }},
		{func(p api.Place) api.Place { return api.Place{X: -p.Y, Y: p.X} }},
		{func(p api.Place) api.Place { return api.Place{X: -p.X, Y: -p.Y} }},
		{func(p api.Place) api.Place { return api.Place{X: p.Y, Y: -p.X} }},
	}
	return ways[uint(quarters)%4].hole(h), api.OK
}

// Mirrored returns a mirrored hole.
func Mirrored(h Hole) (Hole, api.Errno) {
	if e := CheckHole(h); e != api.OK {
		return Hole{}, e
	}
	return transformation{func(p api.Place) api.Place { return api.Place{X: -p.X, Y: p.Y} }}.hole(h), api.OK
}
