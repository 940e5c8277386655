package union

import (
	"cmp"
	"slices"

	"niblick/api"
	"niblick/format"
)

// overPar is what a hole with the mark x adds to a standing.
const overPar = 2

// Board returns the board by the marker's marks.
func Board(u Union) ([]Standing, api.Errno) {
	if e := CheckUnion(u); e != api.OK {
		return nil, e
	}
	return u.read().board(), api.OK
}

func (r reading) board() []Standing {
	var board []Standing
	for _, m := range r.Members {
		if s := r.standing(m); s.Through > 0 {
			board = append(board, s)
		}
	}
	slices.SortStableFunc(board, func(a, b Standing) int {
		return cmp.Or(cmp.Compare(a.Par, b.Par), cmp.Compare(b.Through, a.Through))
	})
	return board
}

func (r reading) standing(m Member) Standing {
	s := Standing{Player: m.Name}
	// There is no error but that there are no holes, and then there are no net strokes either.
	nets, _ := format.Nets(r.Holes, format.Player{Card: r.card(m.Name), Handicap: m.Handicap})
	for i, net := range nets {
		switch net.Mark {
		case unplayed:
			continue
		case picked:
			s.Par += overPar
		default:
			s.Par += net.Strokes - r.Holes[i].Par
		}
		s.Through++
	}
	return s
}
