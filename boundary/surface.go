package boundary

import (
	"iter"

	"spokeshave/api"
	"spokeshave/line"
	"spokeshave/plane"
)

// surface is the boundary of a set.
type surface struct {
	frame
	parts   parts
	edges   []edge // in the order in which they were found
	bounds  map[edge]bound
	leaving map[place][]edge
	loops   [][]edge
	bent    map[int]bool // the corners of the set
}

// edge is a directed segment that bounds a region on a plane, which is on its left.
type edge struct {
	plane    api.Plane
	from, to int
}

// bound is what an edge has: a piece of the part on its left, and its direction.
type bound struct {
	piece int
	along [3]int64
}

// place is a corner, as one of a region on a plane.
type place struct {
	plane  api.Plane
	corner int
}

// surfaceOf finds the surface of a set whose cells are bounded: all segments at which its regions end have two ends.
func surfaceOf(s set) *surface {
	f := &surface{parts: partsOf(s), bounds: map[edge]bound{}, leaving: map[place][]edge{}, bent: map[int]bool{}}
	f.frame = frameOf(f.parts.planes)
	for c := range f.chains() {
		for _, i := range c.pencil {
			for g := range f.segments(c, i) {
				f.divide(g)
			}
		}
	}
	f.follow()
	f.bend()
	return f
}

// divide joins the parts on both sides of a segment if they belong to one region, and otherwise makes the segment an edge of each of them.
func (f *surface) divide(g segment) {
	left, hasLeft := f.parts.numbers[g.left]
	right, hasRight := f.parts.numbers[g.right]
	l := f.parts.pieces
	if hasLeft && hasRight && l[left].outer == l[right].outer {
		f.parts.join(left, right)
		return
	}
	// What is on the left, seen from the outer side, is on the right, seen from the inner side.
	if hasLeft {
		f.add(left, g, l[left].outer)
	}
	if hasRight {
		f.add(right, g, !l[right].outer)
	}
}

// add makes the segment an edge next to a piece: in its direction, or in the opposite one.
func (f *surface) add(number int, g segment, forward bool) {
	p := f.parts.pieces[number]
	e := edge{facing(f.planes[p.plane], p.outer), g.from, g.to}
	along := g.along
	if !forward {
		e.from, e.to, along = g.to, g.from, back(along)
	}
	at := place{e.plane, e.from}
	f.edges = append(f.edges, e)
	f.bounds[e] = bound{number, along}
	f.leaving[at] = append(f.leaving[at], e)
}

// facing returns p, if outer is true, or its opposite.
func facing(p api.Plane, outer bool) api.Plane {
	if outer {
		return p
	}
	opposite, _ := plane.Opposite(p)
	return opposite
}

// follow finds all loops.
func (f *surface) follow() {
	done := map[edge]bool{}
search:
	for _, first := range f.edges {
		var loop []edge
		for e := range f.around(first) {
			if done[e] {
				continue search
			}
			done[e] = true
			loop = append(loop, e)
		}
		f.loops = append(f.loops, loop)
	}
}

// around goes over the edges of a loop, from one of them on.
func (f *surface) around(first edge) iter.Seq[edge] {
	return func(yield func(edge) bool) {
		for e := first; yield(e); {
			e = f.next(e)
			if e == first {
				return
			}
		}
	}
}

// next returns the edge on which a loop goes on behind e. No other region's edges leave its end.
func (f *surface) next(e edge) edge {
	l := f.leaving[place{e.plane, e.to}]
	if len(l) == 1 {
		return l[0]
	}
	var ways [][3]int64
	for _, g := range l {
		ways = append(ways, f.bounds[g].along)
	}
	first, _ := line.Clockwise(e.plane, back(f.bounds[e].along), ways)
	return l[first]
}

// bend finds the corners of the set: where a loop bends. Where a region's loops come to one point several times, it is enough that one of them bends there, and one always does: if two went straight on, the region would be on both sides of their line, which would not bound it.
func (f *surface) bend() {
	for _, loop := range f.loops {
		before := loop[len(loop)-1]
		for _, e := range loop {
			if f.bounds[before].along != f.bounds[e].along {
				f.bent[e.from] = true
			}
			before = e
		}
	}
}
