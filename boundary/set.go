package boundary

import (
	"iter"

	"spokeshave/api"
	"spokeshave/arrange"
	"spokeshave/right"
)

const maxNames = 20000

// set is a set of cells of planes.
type set struct {
	planes []api.Plane
	cells  []string        // the names of all cells, in order of bytes
	listed map[string]bool // for the name of each cell, whether it is in the set
}

// piece is one of a plane, on which a set ends.
type piece struct {
	name  string
	plane int
	outer bool // whether the set is on the plane's inner side: the piece then is a part of a face on the plane, and not of one on its opposite
}

// read makes the set of the cells with these names, or returns the first error, also of what is demanded of the set.
func read(planes []api.Plane, names []string, demands ...func(s set) api.Errno) (set, api.Errno) {
	areList := func() api.Errno { return arrange.Check(planes) }
	if e := right.First(right.Planes(planes...), right.Most(maxNames, len(names)), areList); e != api.OK {
		return set{}, e
	}
	s := set{planes: planes, listed: map[string]bool{}}
	s.cells, _ = arrange.Cells(planes)
	for _, name := range s.cells {
		s.listed[name] = false
	}
	for _, name := range names {
		if isListed, isCell := s.listed[name]; !isCell || isListed {
			return set{}, api.ErrCells
		}
		s.listed[name] = true
	}
	for _, demand := range demands {
		if e := demand(s); e != api.OK {
			return set{}, e
		}
	}
	return s, api.OK
}

// isIndex demands that i is the index of a plane.
func isIndex(i int) func(s set) api.Errno {
	return func(s set) api.Errno {
		if i < 0 || i >= len(s.planes) {
			return api.ErrArg
		}
		return api.OK
	}
}

// pieces goes over all pieces on which the set ends, in order of the planes, then of bytes. Between two cells whose names differ at one plane alone there is a piece of that plane. Cells on the inner side of a plane are in the order of their pieces.
func (s set) pieces() iter.Seq[piece] {
	return func(yield func(piece) bool) {
		for i := range s.planes {
			for _, inner := range s.cells {
				if inner[i] != '-' {
					continue
				}
				before, after := inner[:i], inner[i+1:]
				isOuter, isCell := s.listed[before+"+"+after]
				isInner := s.listed[inner]
				if isCell && isInner != isOuter && !yield(piece{before + "0" + after, i, isInner}) {
					return
				}
			}
		}
	}
}

// needed returns, rising, the indices of all planes with a piece on which the set ends.
func (s set) needed() []int {
	var needed []int
	for p := range s.pieces() {
		if n := len(needed); n == 0 || needed[n-1] != p.plane {
			needed = append(needed, p.plane)
		}
	}
	return needed
}
