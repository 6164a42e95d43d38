package boundary

import (
	"slices"

	"spokeshave/api"
	"spokeshave/lists"
)

// parts are the pieces on which a set ends, for the planes that it needs alone, as far as they are known to hang together.
type parts struct {
	planes  []api.Plane
	pieces  []piece
	numbers map[string]int // the index of each piece, by its name
	roots   []int          // for each piece another one of its part or, for one piece of each part, itself
}

// partsOf leaves out the planes that are not needed. What they divide is on both sides in the set, or on both outside of it.
func partsOf(s set) parts {
	needed := s.needed()
	l := parts{numbers: map[string]int{}}
	for _, i := range needed {
		l.planes = append(l.planes, s.planes[i])
	}
	for p := range s.pieces() {
		name := lists.Picked(p.name, needed)
		if _, isKnown := l.numbers[name]; isKnown {
			continue
		}
		n := len(l.pieces)
		l.numbers[name] = n
		l.roots = append(l.roots, n)
		l.pieces = append(l.pieces, piece{name, slices.Index(needed, p.plane), p.outer})
	}
	return l
}

// join makes one part of those of two pieces.
func (l parts) join(p, q int) {
	l.roots[l.root(p)] = l.root(q)
}

// root returns the piece that stands for the part of p, and shortens the way to it.
func (l parts) root(p int) int {
	for l.roots[p] != p {
		l.roots[p] = l.roots[l.roots[p]]
		p = l.roots[p]
	}
	return p
}
