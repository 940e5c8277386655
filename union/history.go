package union

import "niblick/api"

// history is events, each one accepted after those before it, and the last one that counts. A further event makes another history and leaves this one as it is.
type history struct {
	events []api.Event
	last   *step // nil if no event counts
}

// step is an event that counts: the union after it, and the one that counted before it.
type step struct {
	union  Union
	before *step
}

// union returns the union after the events.
func (h history) union() Union {
	if h.last == nil {
		return Union{}
	}
	return h.last.union
}

// next returns the history with a further event, or the error with which this is not accepted.
func (h history) next(e api.Event) (history, api.Errno) {
	err := firstError(
		CheckEvent(e),
		unless(len(h.events) < api.MaxEvents, api.ErrMany),
		unless(e.Number == len(h.events)+1, api.ErrOrder))
	if err != api.OK {
		return history{}, err
	}
	last, err := h.count(e)
	if err != api.OK {
		return history{}, err
	}
	return history{joined(h.events, e), last}, api.OK
}

// count returns the last event that counts after a further event, or the error of this.
func (h history) count(e api.Event) (*step, api.Errno) {
	if e.Kind == undo {
		if h.last == nil {
			return nil, api.ErrEmpty
		}
		return h.last.before, api.OK
	}
	u, err := kinds()[e.Kind].change(h.union(), e)
	return &step{u, h.last}, firstError(err, u.checkSizes())
}

// replay returns the history of events, or the place of the first one that is not accepted, from 1 on, and its error.
func replay(l []api.Event) (history, int, api.Errno) {
	var h history
	if len(l) > api.MaxEvents {
		return h, 0, api.ErrMany
	}
	for i, e := range l {
		next, err := h.next(e)
		if err != api.OK {
			return history{}, i + 1, err
		}
		h = next
	}
	return h, 0, api.OK
}

// Replay returns the union after some events, or the place of the first one with an error.
func Replay(l []api.Event) (Union, int, api.Errno) {
	h, place, e := replay(l)
	return h.union(), place, e
}

// Accepts returns the error with which an event is not accepted after others, or OK.
func Accepts(l []api.Event, e api.Event) api.Errno {
	h, _, err := replay(l)
	if err == api.OK {
		_, err = h.next(e)
	}
	return err
}
