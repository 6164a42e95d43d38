package solid

import (
	"spokeshave/api"
	"spokeshave/line"
	"spokeshave/plane"
)

// frame is the planes of a solid with all their cells and lines, and the edges of the solid on these.
type frame struct {
	planes []api.Plane
	cells  []mask
	isCell map[mask]bool
	lines  [][]mask // of each plane: for each line on it the other planes that contain it
	edges  map[strip][]span
}

// strip is a line, as one on a plane.
type strip struct {
	plane  int
	others mask // those that contain it
}

// span is what lies between two points of a line. It lies on the outer side of some planes, and on the inner side of some others.
type span struct{ outer, inner mask }

// position tells where a point is: on which planes, and on which sides of the others.
type position struct{ on, outer, inner mask }

func frameOf(s api.Solid, planes []api.Plane, names []string) frame {
	f := frame{planes: planes, lines: make([][]mask, len(planes)), edges: map[strip][]span{}}
	for _, name := range names {
		f.cells = append(f.cells, maskOf(name))
	}
	f.isCell = setOf(f.cells)
	index := map[api.Plane]int{}
	for i, p := range planes {
		index[p] = i
		f.addLines(i)
	}
	where := f.positions()
	for p, edge := range edges(s) {
		shown, _ := plane.Shown(p)
		i, a, b := index[shown], where(edge[0]), where(edge[1])
		at := strip{i, a.on & b.on &^ only(i)}
		f.edges[at] = append(f.edges[at], between(a, b))
	}
	return f
}

// addLines adds the lines of which plane i is the first plane, to all planes that contain them.
func (f frame) addLines(i int) {
	for j := i + 1; j < len(f.planes); j++ {
		pencil, e := line.Pencil(f.planes[i], f.planes[j], f.planes)
		// Of all pairs of planes that have this line, the first one is taken.
		if e != api.OK || pencil[0] != i || pencil[1] != j {
			continue
		}
		var all mask
		for _, k := range pencil {
			all |= only(k)
		}
		for _, k := range pencil {
			f.lines[k] = append(f.lines[k], all&^only(k))
		}
	}
}

// positions returns what tells where a point is. Points come several times: each is examined once.
func (f frame) positions() func(q api.Point) position {
	known := map[api.Point]position{}
	return func(q api.Point) position {
		at, isKnown := known[q]
		if !isKnown {
			at = f.positionOf(q)
			known[q] = at
		}
		return at
	}
}

func (f frame) positionOf(q api.Point) position {
	var at position
	for i, p := range f.planes {
		switch side, _ := plane.Side(p, q); side {
		case 0:
			at.on |= only(i)
		case 1:
			at.outer |= only(i)
		case -1:
			at.inner |= only(i)
		}
	}
	return at
}

// between returns what lies between two points: on the side of a plane on which one of them is, unless the other one is on its other side.
func between(a, b position) span {
	outer, inner := a.outer|b.outer, a.inner|b.inner
	return span{outer &^ inner, inner &^ outer}
}

// contains returns whether a segment of the line lies there. Beyond a corner it would be on another side of the planes that cross the line there.
func (s span) contains(segment mask) bool {
	return s.outer&^segment == 0 && s.inner&segment == 0
}

// pieces returns the pieces of plane i: there is one between any two cells that differ by the side of this plane alone.
func (f frame) pieces(i int) []mask {
	var l []mask
	for _, c := range f.cells {
		if c&only(i) == 0 && f.isCell[c|only(i)] {
			l = append(l, c)
		}
	}
	return l
}

// isEdge returns what tells whether a step from a piece of plane i leads through an odd number of edges: it goes through the segment between the piece and that on the other side of the line.
func (f frame) isEdge(i int) func(from, step mask) bool {
	return func(from, step mask) bool {
		isOdd := false
		for _, s := range f.edges[strip{i, step}] {
			if s.contains(from &^ step) {
				isOdd = !isOdd
			}
		}
		return isOdd
	}
}
