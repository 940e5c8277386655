package course

import "niblick/api"

// Relief returns the nearest place of relief.
func Relief(h Hole, p api.Place, kind string, reach int) (api.Place, api.Errno) {
	e := first(CheckHole(h), checkPlaces(p), checkPlaceKind(kind), within(reach, 0, MaxReach))
	if e != api.OK {
		return api.Place{}, e
	}
	var nearest api.Place
	limit := reach*reach + 1
	// In this order, the first of several places that are equally near is the one to be found.
	for x := p.X - reach; x <= p.X+reach; x++ {
		for y := p.Y - reach; y <= p.Y+reach; y++ {
			place := api.Place{X: x, Y: y}
			if squareOf(p, place) < limit && relieves(h, p, place, kind) {
				nearest, limit = place, squareOf(p, place)
			}
		}
	}
	return nearest, unless(limit <= reach*reach, api.ErrNone)
}

// relieves reports whether a place relieves a ball at p of a kind; no place beyond the limits does, as it is out.
func relieves(h Hole, p, place api.Place, kind string) bool {
	if squareOf(place, h.Cup) < squareOf(p, h.Cup) {
		return false
	}
	other, _ := locate(h, place)
	return other != kind && other != out
}
