package solid

import (
	"slices"
	"strings"

	"spokeshave/api"
	"spokeshave/boundary"
	"spokeshave/plane"
	"spokeshave/point"
	"spokeshave/right"
)

const (
	maxElement = 10000
	maxSteps   = 12
)

// shape is what a simple solid is made of.
type shape interface {
	// checks are those of the numbers by which the shape is given.
	checks() []right.Check
	// sides returns the planes on which the faces are, or the error of one that is too large.
	sides() ([]api.Plane, api.Errno)
	// cells returns the names of the cells of these planes that lie in the solid.
	cells() []string
}

type box struct{ low, high [3]int64 }

type tetrahedron [4]api.Point

type octahedron struct {
	centre [3]int64
	r      int64
}

type wedge struct {
	box
	corner int
}

type staircase int

func made(s shape) (api.Solid, api.Errno) {
	if e := right.First(s.checks()...); e != api.OK {
		return api.Solid{}, e
	}
	sides, e := s.sides()
	if e != api.OK {
		return api.Solid{}, e
	}
	return boundary.Make(sides, s.cells())
}

// inside is the cell on the inner sides of all of n planes.
func inside(n int) []string {
	return []string{strings.Repeat("-", n)}
}

func (b box) checks() []right.Check {
	elements := slices.Concat(b.low[:], b.high[:])
	return []right.Check{right.Within(maxElement, elements...), b.isFull}
}

// isFull checks that low is less than high in each coordinate.
func (b box) isFull() api.Errno {
	for axis := range b.low {
		if b.low[axis] >= b.high[axis] {
			return api.ErrArg
		}
	}
	return api.OK
}

func (b box) sides() ([]api.Plane, api.Errno) {
	var l []api.Plane
	for axis := range b.low {
		l = append(l, across(axis, -1, b.low[axis]), across(axis, 1, b.high[axis]))
	}
	return l, api.OK
}

func (b box) cells() []string {
	return inside(6)
}

// across returns the plane across an axis at some place, with its outer side before that place if way is -1, or behind it if way is 1.
func across(axis int, way, at int64) api.Plane {
	p := api.Plane{3: -way * at}
	p[axis] = way
	return p
}

func (t tetrahedron) checks() []right.Check {
	return []right.Check{right.Points(t[:]...), t.isSolid}
}

// isSolid checks that no plane contains all points.
func (t tetrahedron) isSolid() api.Errno {
	if side, _ := point.Orient(t[0], t[1], t[2], t[3]); side == 0 {
		return api.ErrNone
	}
	return api.OK
}

func (t tetrahedron) sides() ([]api.Plane, api.Errno) {
	var l []api.Plane
	for i, q := range t {
		p, e := plane.Through(t[(i+1)%4], t[(i+2)%4], t[(i+3)%4])
		if e != api.OK {
			return nil, e
		}
		if side, _ := plane.Side(p, q); side > 0 {
			p, _ = plane.Opposite(p)
		}
		l = append(l, p)
	}
	return l, api.OK
}

func (t tetrahedron) cells() []string {
	return inside(4)
}

func (o octahedron) checks() []right.Check {
	return []right.Check{right.Within(maxElement, o.centre[:]...), o.hasSize}
}

func (o octahedron) hasSize() api.Errno {
	if o.r < 1 || o.r > maxElement {
		return api.ErrArg
	}
	return api.OK
}

// sides are the planes of all eight normals with the elements 1 and -1.
func (o octahedron) sides() ([]api.Plane, api.Errno) {
	var l []api.Plane
	for octant := range 8 {
		p := api.Plane{3: -o.r}
		for axis, at := range o.centre {
			p[axis] = 1 - 2*int64(octant>>axis&1)
			p[3] -= p[axis] * at
		}
		l = append(l, p)
	}
	return l, api.OK
}

func (o octahedron) cells() []string {
	return inside(8)
}

func (w wedge) checks() []right.Check {
	return append(w.box.checks(), w.hasCorner)
}

func (w wedge) hasCorner() api.Errno {
	if w.corner < 0 || w.corner > 7 {
		return api.ErrArg
	}
	return api.OK
}

func (w wedge) sides() ([]api.Plane, api.Errno) {
	return w.points().sides()
}

// points are the corner and its three neighbours, whose numbers differ from that of the corner in one bit each.
func (w wedge) points() tetrahedron {
	t := tetrahedron{w.pointOf(w.corner)}
	for axis := range 3 {
		t[1+axis] = w.pointOf(w.corner ^ 1<<axis)
	}
	return t
}

func (w wedge) pointOf(corner int) api.Point {
	q := api.Point{3: 1}
	for axis := range 3 {
		q[axis] = w.low[axis]
		if corner>>axis&1 == 1 {
			q[axis] = w.high[axis]
		}
	}
	return q
}

func (w wedge) cells() []string {
	return inside(4)
}

func (s staircase) checks() []right.Check {
	return []right.Check{s.isShort}
}

func (s staircase) isShort() api.Errno {
	if s < 1 || s > maxSteps {
		return api.ErrArg
	}
	return api.OK
}

// sides are the planes between unit cubes in rows.
func (s staircase) sides() ([]api.Plane, api.Errno) {
	var l []api.Plane
	for axis, cubes := range [...]int{int(s), int(s), 1} {
		for at := range cubes + 1 {
			l = append(l, across(axis, 1, int64(at)))
		}
	}
	return l, api.OK
}

// cells are the cubes: one less from y = 0 on with each step along x.
func (s staircase) cells() []string {
	n := int(s)
	var l []string
	for x := range n {
		for y := range n - x {
			l = append(l, row(x, n)+row(y, n)+row(0, 1))
		}
	}
	return l
}

// row returns the signs of a cube in a row of n for the planes across the row.
func row(cube, n int) string {
	return strings.Repeat("+", cube+1) + strings.Repeat("-", n-cube)
}
