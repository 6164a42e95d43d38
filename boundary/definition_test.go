package boundary_test

import (
	"cmp"
	"maps"
	"reflect"
	"slices"
	"testing"

	"spokeshave/api"
	"spokeshave/arrange"
	"spokeshave/boundary"
	"spokeshave/line"
	"spokeshave/plane"
	"spokeshave/point"
)

// paper is a set as the document describes it: by the pieces of each plane and of its opposite that are in their regions.
type paper struct {
	set
	name    string
	corners map[api.Point]string // of all planes, with their sign strings
	pieces  [][]string           // of each plane
	regions map[side]map[string]bool
	bent    map[api.Point]bool // the corners of the set
}

// side is a plane of a list, or its opposite.
type side struct {
	plane int
	outer bool
}

func paperOf(t *testing.T, name string, s set) *paper {
	t.Helper()
	p := &paper{s, name, map[api.Point]string{}, nil, map[side]map[string]bool{}, map[api.Point]bool{}}
	corners, e := arrange.Corners(s.planes)
	for _, c := range value(t, corners, e) {
		signs, e := arrange.Signs(s.planes, c)
		p.corners[c] = value(t, signs, e)
	}
	for i := range s.planes {
		all, e := arrange.Pieces(s.planes, i)
		p.pieces = append(p.pieces, value(t, all, e))
		for _, outer := range []bool{true, false} {
			region := map[string]bool{}
			for _, piece := range all {
				in, out := slices.Contains(s.cells, with(piece, i, "-")), slices.Contains(s.cells, with(piece, i, "+"))
				region[piece] = in == outer && out != outer
			}
			p.regions[side{i, outer}] = region
		}
	}
	for c := range p.corners {
		for region := range p.regions {
			if p.bends(region, c) {
				p.bent[c] = true
			}
		}
	}
	return p
}

// isNear returns whether the corner with the sign string c is a point of the closure of a piece.
func isNear(c, piece string) bool {
	for i := range c {
		if c[i] != '0' && c[i] != piece[i] {
			return false
		}
	}
	return true
}

// bends returns whether c is a corner of a region: near it the region is neither nothing, nor all of the plane, nor what is on one side of another plane.
func (p *paper) bends(region side, c api.Point) bool {
	signs := p.corners[c]
	if signs[region.plane] != '0' {
		return false
	}
	var near []string
	in := 0
	for _, piece := range p.pieces[region.plane] {
		if isNear(signs, piece) {
			near = append(near, piece)
			if p.regions[region][piece] {
				in++
			}
		}
	}
	if in == 0 || in == len(near) {
		return false
	}
	for j := range signs {
		if signs[j] != '0' || j == region.plane {
			continue
		}
		for _, sign := range []byte("+-") {
			if !slices.ContainsFunc(near, func(piece string) bool { return (piece[j] == sign) != p.regions[region][piece] }) {
				return false
			}
		}
	}
	return true
}

// parts are the pieces of a region, as they hang together.
func (p *paper) parts(t *testing.T, region side) [][]string {
	t.Helper()
	var parts [][]string
	left := maps.Clone(p.regions[region])
	for _, first := range p.pieces[region.plane] {
		if !left[first] {
			continue
		}
		part := []string{first}
		left[first] = false
		for n := 0; n < len(part); n++ {
			for _, next := range p.pieces[region.plane] {
				if left[next] && p.touch(t, region.plane, part[n], next) {
					part = append(part, next)
					left[next] = false
				}
			}
		}
		parts = append(parts, part)
	}
	return parts
}

// touch returns whether there is just one line between two pieces of plane i: they then have a segment of it in common.
func (p *paper) touch(t *testing.T, i int, a, b string) bool {
	t.Helper()
	var l []int
	last := 0
	for k := range a {
		if a[k] != b[k] || k == i {
			l = append(l, k)
		}
		if a[k] != b[k] {
			last = k
		}
	}
	if len(l) == 1 {
		return false
	}
	pencil, e := line.Pencil(p.planes[i], p.planes[last], p.planes)
	return e == api.OK && slices.Equal(pencil, l)
}

// middle is a point of a bounded piece, if it is right.
func (p *paper) middle(t *testing.T, i int, piece string) (api.Point, bool) {
	t.Helper()
	var l []api.Point
	for c, signs := range p.corners {
		if signs[i] == '0' && isNear(signs, piece) {
			l = append(l, c)
		}
	}
	if len(l) < 3 {
		return api.Point{}, false
	}
	slices.SortFunc(l, order)
	m, e := point.Middle(l[0], l[1])
	if e == api.OK {
		m, e = point.Middle(m, l[2])
	}
	if e != api.OK {
		return api.Point{}, false
	}
	signs, e := arrange.Signs(p.planes, m)
	same(t, "the signs in the middle", signs, e, piece)
	return m, true
}

func order(a, b api.Point) int {
	n, _ := point.Cmp(a, b)
	return n
}

func listOrder(a, b []api.Point) int {
	return slices.CompareFunc(a, b, order)
}

// turn returns 1, -1 or 0, as a way on p from a by b to c turns to the left, to the right, or not, seen from the outer side of p.
func turn(t *testing.T, p api.Plane, a, b, c api.Point) int {
	t.Helper()
	q, e := plane.Through(a, b, c)
	switch {
	case e == api.ErrNone:
		return 0
	case q == p:
		return 1
	case q == opposite(p):
		return -1
	}
	t.Fatalf("%v, %v, %v are on %v, not on %v, error %d", a, b, c, q, p, e)
	return 0
}

// around returns how often a loop goes round m, counter-clockwise: by the edges that cross the line of points on p that are as far in order as m, to its one side.
func around(t *testing.T, p api.Plane, m api.Point, loop []api.Point) int {
	t.Helper()
	n := 0
	for i, a := range loop {
		b := loop[(i+1)%len(loop)]
		before, after := order(a, m) < 0, order(b, m) < 0
		if before != after {
			way := turn(t, p, a, b, m)
			if before && way < 0 {
				n--
			}
			if !before && way > 0 {
				n++
			}
		}
	}
	return n
}

// check compares all functions with the document's definitions.
func check(t *testing.T, name string, s set) {
	t.Helper()
	p := paperOf(t, name, s)
	corners, e := boundary.Corners(s.planes, s.cells)
	same(t, "Corners of "+name, corners, e, slices.SortedFunc(maps.Keys(p.bent), order))
	var names []string
	var faces []api.Face
	var needed []int
	for i, q := range s.planes {
		at := len(names)
		for _, piece := range p.pieces[i] {
			if p.regions[side{i, true}][piece] || p.regions[side{i, false}][piece] {
				names = append(names, piece)
			}
		}
		if len(names) > at {
			needed = append(needed, i)
		}
		for _, outer := range []bool{true, false} {
			if !outer {
				q = opposite(q)
			}
			l, e := boundary.Faces(s.planes, s.cells, i, outer)
			p.hasFaces(t, side{i, outer}, q, value(t, l, e))
			faces = append(faces, l...)
		}
	}
	pieces, e := boundary.Boundary(s.planes, s.cells)
	same(t, "Boundary of "+name, pieces, e, names)
	got, e := boundary.Needed(s.planes, s.cells)
	same(t, "Needed of "+name, got, e, needed)
	p.hasSolid(t, faces)
	p.hasEdges(t, faces)
}

// hasFaces checks the faces of a region: each one is a part, and is in order.
func (p *paper) hasFaces(t *testing.T, region side, q api.Plane, faces []api.Face) {
	t.Helper()
	parts := p.parts(t, region)
	if len(faces) != len(parts) {
		t.Errorf("%s: %d faces on %v, want %d", p.name, len(faces), q, len(parts))
		return
	}
	p.hasCorners(t, region, faces)
	for n, f := range faces {
		if f.Plane != q || len(f.Loops) == 0 {
			t.Errorf("%s: %v, want a face on %v", p.name, f, q)
			return
		}
		if n > 0 && listOrder(faces[n-1].Loops[0], f.Loops[0]) >= 0 {
			t.Errorf("%s: %v is before %v", p.name, faces[n-1], f)
		}
		p.hasLoops(t, f)
	}
	for _, piece := range p.pieces[region.plane] {
		m, ok := p.middle(t, region.plane, piece)
		if !ok {
			continue
		}
		in := -1
		for n, part := range parts {
			if slices.Contains(part, piece) {
				in = n
			}
		}
		p.isIn(t, m, in, parts, faces)
	}
}

// isIn checks that m, which is in a part or, if that is -1, in none, is in the face of the same pieces.
func (p *paper) isIn(t *testing.T, m api.Point, part int, parts [][]string, faces []api.Face) {
	t.Helper()
	found := 0
	for _, f := range faces {
		outer, holes := around(t, f.Plane, m, f.Loops[0]), 0
		for _, loop := range f.Loops[1:] {
			holes += around(t, f.Plane, m, loop)
		}
		switch {
		case outer == 1 && holes == 0:
			found++
			if part < 0 || !p.isOf(t, f, parts[part]) {
				t.Errorf("%s: %v is in %v", p.name, m, f)
			}
		case outer != 0 && outer != 1 || holes != -outer:
			t.Errorf("%s: %v goes round %v %d times, and its holes %d times", p.name, f, m, outer, holes)
		}
	}
	if found != 1 && part >= 0 || found != 0 && part < 0 {
		t.Errorf("%s: %v is in %d faces", p.name, m, found)
	}
}

// isOf returns whether the corners of a face are in the closure of a part.
func (p *paper) isOf(t *testing.T, f api.Face, part []string) bool {
	t.Helper()
	for _, loop := range f.Loops {
		for _, c := range loop {
			if !slices.ContainsFunc(part, func(piece string) bool { return isNear(p.corners[c], piece) }) {
				return false
			}
		}
	}
	return true
}

// hasCorners checks that each corner of a region is in a loop of its faces, and that no segment of them is there twice, or both ways.
func (p *paper) hasCorners(t *testing.T, region side, faces []api.Face) {
	t.Helper()
	used := map[api.Point]bool{}
	edges := map[[2]api.Point]bool{}
	for _, f := range faces {
		for _, e := range edgesOf(f) {
			used[e[0]] = true
			if edges[e] || edges[[2]api.Point{e[1], e[0]}] {
				t.Errorf("%s: the edge %v is twice in a region", p.name, e)
			}
			edges[e] = true
		}
	}
	for c := range p.corners {
		if p.bends(region, c) && !used[c] {
			t.Errorf("%s: no face of %v has the corner %v", p.name, region, c)
		}
	}
}

func edgesOf(f api.Face) [][2]api.Point {
	var l [][2]api.Point
	for _, loop := range f.Loops {
		for i, a := range loop {
			l = append(l, [2]api.Point{a, loop[(i+1)%len(loop)]})
		}
	}
	return l
}

// hasLoops checks the loops of a face: where they begin and in which order they are, that they have all corners, but no one of two loops, and that they go on clockwise.
func (p *paper) hasLoops(t *testing.T, f api.Face) {
	t.Helper()
	owner := map[api.Point]int{}
	for n, loop := range f.Loops {
		if len(loop) < 3 || n > 1 && listOrder(f.Loops[n-1], loop) >= 0 {
			t.Errorf("%s: the loop %d of %v", p.name, n, f)
		}
		for k := range loop {
			if listOrder(slices.Concat(loop[k:], loop[:k]), loop) < 0 {
				t.Errorf("%s: %v begins too late", p.name, loop)
			}
		}
		for i, a := range loop {
			if at, ok := owner[a]; ok && at != n || !p.bent[a] {
				t.Errorf("%s: %v is in several loops of %v, or is no corner", p.name, a, f)
			}
			owner[a] = n
			p.isStraight(t, a, loop[(i+1)%len(loop)])
		}
	}
	p.goesClockwise(t, f)
}

// isStraight checks that between two points that follow each other in a loop there is no corner.
func (p *paper) isStraight(t *testing.T, a, b api.Point) {
	t.Helper()
	for c := range p.bent {
		is, e := point.Between(a, c, b)
		if value(t, is, e) || a == b {
			t.Errorf("%s: %v is between %v and %v", p.name, c, a, b)
		}
	}
}

// goesClockwise checks that each loop goes on, in each point, along the first of the face's edges.
func (p *paper) goesClockwise(t *testing.T, f api.Face) {
	t.Helper()
	ends := map[api.Point][]api.Point{}
	for _, e := range edgesOf(f) {
		ends[e[0]] = append(ends[e[0]], e[1])
		ends[e[1]] = append(ends[e[1]], e[0])
	}
	for _, loop := range f.Loops {
		for i, b := range loop {
			a, c := loop[(i+len(loop)-1)%len(loop)], loop[(i+1)%len(loop)]
			for _, d := range ends[b] {
				if d != a && d != c && sweeps(t, f.Plane, a, b, c, d) {
					t.Errorf("%s: %v goes on from %v to %v, not to %v", p.name, loop, b, c, d)
				}
			}
		}
	}
}

// sweeps returns whether d comes before c, going clockwise round b from a.
func sweeps(t *testing.T, p api.Plane, a, b, c, d api.Point) bool {
	t.Helper()
	quarter := func(x api.Point) int {
		way := turn(t, p, b, a, x)
		is, e := point.Between(x, b, a)
		switch {
		case way < 0:
			return 1
		case way > 0:
			return 3
		case value(t, is, e):
			return 2
		}
		return 4
	}
	if n := cmp.Compare(quarter(d), quarter(c)); n != 0 {
		return n < 0
	}
	return turn(t, p, b, d, c) < 0
}

// hasSolid checks that the solid has all faces, in order of their planes, or that there are too many.
func (p *paper) hasSolid(t *testing.T, faces []api.Face) {
	t.Helper()
	slices.SortStableFunc(faces, func(a, b api.Face) int { return slices.Compare(a.Plane[:], b.Plane[:]) })
	s, e := boundary.Make(p.planes, p.cells)
	if len(faces) > api.MaxFaces {
		hasNoFaces(t, "Make of "+p.name, s, e, api.ErrLarge)
		return
	}
	if e != api.OK || len(s.Faces) != len(faces) || len(faces) > 0 && !reflect.DeepEqual(s.Faces, faces) {
		t.Errorf("Make of %s: %v, error %d, want %v", p.name, s, e, faces)
	}
}

// hasEdges checks that the edges are those of the faces, in order, and each there as often as its opposite one.
func (p *paper) hasEdges(t *testing.T, faces []api.Face) {
	t.Helper()
	var want [][2]api.Point
	count := map[[2]api.Point]int{}
	for _, f := range faces {
		for _, e := range edgesOf(f) {
			want = append(want, e)
			count[e]++
			count[[2]api.Point{e[1], e[0]}]--
		}
	}
	slices.SortFunc(want, func(a, b [2]api.Point) int { return cmp.Or(order(a[0], b[0]), order(a[1], b[1])) })
	edges, e := boundary.Edges(p.planes, p.cells)
	same(t, "Edges of "+p.name, edges, e, want)
	for e, n := range count {
		if n != 0 {
			t.Errorf("%s: %v is there %d times more often than its opposite", p.name, e, n)
		}
	}
}

// The document's definitions, for sets of all kinds.
func TestDefinitions(t *testing.T) {
	for name, s := range sets(t) {
		check(t, name, s)
	}
}
