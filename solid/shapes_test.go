package solid_test

import (
	"slices"
	"testing"

	"spokeshave/api"
	"spokeshave/arrange"
	"spokeshave/plane"
	"spokeshave/point"
	"spokeshave/solid"
)

// places gives points inside of the convex hull of a solid's corners, and some outside near it.
func (r *rolls) places(t *testing.T, s api.Solid, n int) []api.Point {
	t.Helper()
	corners, e := solid.Corners(s)
	value(t, corners, e)
	var l []api.Point
	for len(l) < n {
		q := api.Point{3: 1}
		var sum int64
		for range 4 {
			c, by := corners[r.below(int64(len(corners)))], r.below(9)-1
			sum += by
			for axis := range 3 {
				q[axis] = q[axis]*c[3] + by*c[axis]*q[3]
			}
			q[3] *= c[3]
		}
		if p, e := point.Make(q[0], q[1], q[2], q[3]*sum); e == api.OK {
			l = append(l, p)
		}
	}
	return l
}

// hasPoints checks that just those points are in a solid that are in what its definition says. Those on planes of the solid are left out.
func hasPoints(t *testing.T, what string, s api.Solid, isIn func(q api.Point) bool) {
	t.Helper()
	planes, e := solid.Planes(s)
	value(t, planes, e)
	cells, e := solid.Cells(s, planes)
	value(t, cells, e)
	r := rolls(7)
	var count [2]int
	for _, q := range r.places(t, s, 200) {
		signs, e := arrange.Signs(planes, q)
		value(t, signs, e)
		if slices.Contains([]byte(signs), '0') {
			continue
		}
		got := slices.Contains(cells, signs)
		if got != isIn(q) {
			t.Errorf("%s: %v is in it: %v", what, q, got)
		}
		if got {
			count[0]++
		} else {
			count[1]++
		}
	}
	if count[0] < 5 || count[1] < 5 {
		t.Errorf("%s: %d points inside, %d outside", what, count[0], count[1])
	}
}

// put is the unit box with other coordinates.
func put(low, high [3]int64) api.Solid {
	s := unit()
	for i := range s.Faces {
		p := &s.Faces[i].Plane
		for axis := range low {
			switch p[axis] {
			case 1:
				p[3] = -high[axis]
			case -1:
				p[3] = low[axis]
			}
			for k := range s.Faces[i].Loops[0] {
				q := &s.Faces[i].Loops[0][k]
				q[axis] = []int64{low[axis], high[axis]}[q[axis]]
			}
		}
	}
	return inOrder(s.Faces...)
}

func TestBox(t *testing.T) {
	s, e := solid.Box([3]int64{0, 0, 0}, [3]int64{1, 1, 1})
	same(t, "the first example", s, e, unit())
	r := rolls(3)
	for _, c := range [][2][3]int64{
		{{-10000, -10000, -10000}, {10000, 10000, 10000}}, {{9999, 9999, 9999}, {10000, 10000, 10000}}, {{-10000, -10000, -10000}, {-9999, -9999, -9999}},
		{{-1, 0, 9999}, {10000, 1, 10000}}, {{-3, -5, -7}, {-2, -4, -6}},
		r.corners(10000), r.corners(10000), r.corners(100), r.corners(9), r.corners(2),
	} {
		s, e := solid.Box(c[0], c[1])
		same(t, "Box", s, e, put(c[0], c[1]))
		isRight(t, "Box", s)
		hasPoints(t, "Box", s, func(q api.Point) bool {
			for axis := range 3 {
				if q[axis] <= c[0][axis]*q[3] || q[axis] >= c[1][axis]*q[3] {
					return false
				}
			}
			return true
		})
	}
}

// corners gives the low and the high corner of a box.
func (r *rolls) corners(limit int64) [2][3]int64 {
	var c [2][3]int64
	for axis := range 3 {
		for c[0][axis] >= c[1][axis] {
			c[0][axis], c[1][axis] = r.within(limit), r.within(limit)
		}
	}
	return c
}

// hull is the tetrahedron of four points, face by face.
func hull(t *testing.T, p [4]api.Point) api.Solid {
	t.Helper()
	var faces []api.Face
	for i, inner := range p {
		loop := []api.Point{p[(i+1)%4], p[(i+2)%4], p[(i+3)%4]}
		side, e := point.Orient(loop[0], loop[1], loop[2], inner)
		if value(t, side, e) > 0 {
			slices.Reverse(loop)
		}
		q, e := plane.Through(loop[0], loop[1], loop[2])
		faces = append(faces, api.Face{Plane: value(t, q, e), Loops: [][]api.Point{loop}})
	}
	return inOrder(faces...)
}

// isTetrahedron checks a tetrahedron in all orders of its points.
func isTetrahedron(t *testing.T, p [4]api.Point) {
	t.Helper()
	want := hull(t, p)
	for i := range 24 {
		q := p
		for k, n := range []int{i % 2, i / 2 % 3, i / 6} {
			q[k+1], q[n] = q[n], q[k+1]
		}
		s, e := solid.Tetrahedron(q)
		same(t, "Tetrahedron", s, e, want)
	}
	isRight(t, "Tetrahedron", want)
	hasPoints(t, "Tetrahedron", want, func(q api.Point) bool {
		all, _ := point.Orient(p[0], p[1], p[2], p[3])
		for i := range p {
			other := p
			other[i] = q
			if side, _ := point.Orient(other[0], other[1], other[2], other[3]); side != all {
				return false
			}
		}
		return true
	})
}

func TestTetrahedron(t *testing.T) {
	s, e := solid.Tetrahedron([4]api.Point{{0, 0, 0, 1}, {1, 0, 0, 2}, {0, 1, 0, 3}, {0, 0, 1, 1}})
	same(t, "by hand", s, e, half())
	isTetrahedron(t, [4]api.Point{{0, 0, 0, 1}, {1, 0, 0, 1}, {0, 1, 0, 1}, {0, 0, 1, 1}})
	isTetrahedron(t, [4]api.Point{{0, 0, 0, 1}, {1, 0, 0, 2}, {0, 1, 0, 3}, {0, 0, 1, 1}})
	isTetrahedron(t, [4]api.Point{{1, 1, 1, 1}, {1, -1, -1, 1}, {-1, 1, -1, 1}, {-1, -1, 1, 1}})
	isTetrahedron(t, [4]api.Point{{1, 2, 3, 7}, {-1, 2, 0, 5}, {3, -2, 1, 2}, {0, 1, -4, 3}})
	isTetrahedron(t, [4]api.Point{{0, 0, 0, 1}, {1, 0, 0, 1000}, {0, 1, 0, 1000}, {0, 0, 1, 1000}})
	isTetrahedron(t, [4]api.Point{{0, 0, 0, 1}, {1000000, 0, 0, 1}, {0, 1000000, 0, 1}, {0, 0, 1000000, 1}})
	isTetrahedron(t, [4]api.Point{{0, 0, 0, 1}, {1000, 0, 0, 1}, {0, 1000, 0, 1}, {0, 0, 1, 1}})
	isTetrahedron(t, [4]api.Point{{1000000, -1000000, 1000000, 1}, {999999, -1000000, 1000000, 1}, {1000000, -999999, 1000000, 1}, {1000000, -1000000, 1000001, 1}})
	r := rolls(4)
	var right, large, flat int
	for n := range 240 {
		var p [4]api.Point
		for i := range p {
			p[i] = r.point([]int64{1, 4, 9, 100}[n%4], []int64{1, 3, 5}[n%3])
		}
		s, e := solid.Tetrahedron(p)
		switch want := errorOf(p); {
		case want == api.OK:
			right++
			isTetrahedron(t, p)
		case want == api.ErrLarge:
			large++
			hasNoFaces(t, "Tetrahedron of large planes", s, e, want)
		default:
			flat++
			hasNoFaces(t, "Tetrahedron of a flat one", s, e, want)
		}
	}
	if right < 50 || large < 50 || flat < 10 {
		t.Errorf("%d right ones, %d large ones, %d flat ones", right, large, flat)
	}
}

// point gives one with small coordinates.
func (r *rolls) point(limit, weight int64) api.Point {
	q, _ := point.Make(r.within(limit), r.within(limit), r.within(limit), 1+r.below(weight))
	return q
}

// errorOf is that of a tetrahedron of points that are right.
func errorOf(p [4]api.Point) api.Errno {
	if side, _ := point.Orient(p[0], p[1], p[2], p[3]); side == 0 {
		return api.ErrNone
	}
	for i := range p {
		if _, e := plane.Through(p[(i+1)%4], p[(i+2)%4], p[(i+3)%4]); e != api.OK {
			return e
		}
	}
	return api.OK
}

func TestOctahedron(t *testing.T) {
	for _, c := range [][4]int64{{0, 0, 0, 1}, {1, 2, 3, 4}, {10000, 10000, 10000, 10000}, {-10000, -10000, -10000, 10000}, {-10000, 10000, -10000, 1}, {-5, 0, 9999, 77}} {
		s, e := solid.Octahedron([3]int64{c[0], c[1], c[2]}, c[3])
		var faces []api.Face
		for _, x := range []int64{1, -1} {
			for _, y := range []int64{1, -1} {
				for _, z := range []int64{1, -1} {
					loop := points(c[0]+x*c[3], c[1], c[2], c[0], c[1]+y*c[3], c[2], c[0], c[1], c[2]+z*c[3])
					if x*y*z < 0 {
						slices.Reverse(loop)
					}
					faces = append(faces, api.Face{Plane: api.Plane{x, y, z, -x*c[0] - y*c[1] - z*c[2] - c[3]}, Loops: [][]api.Point{loop}})
				}
			}
		}
		same(t, "Octahedron", s, e, inOrder(faces...))
		isRight(t, "Octahedron", s)
		hasPoints(t, "Octahedron", s, func(q api.Point) bool {
			var far int64
			for axis := range 3 {
				far += max(q[axis]-c[axis]*q[3], c[axis]*q[3]-q[axis])
			}
			return far < c[3]*q[3]
		})
	}
}

// isWedge checks the wedge of each corner of a box.
func isWedge(t *testing.T, low, high [3]int64) {
	t.Helper()
	for corner := range 8 {
		at := func(n int) api.Point {
			q := api.Point{low[0], low[1], low[2], 1}
			for axis, bit := range []int{1, 2, 4} {
				if n&bit > 0 {
					q[axis] = high[axis]
				}
			}
			return q
		}
		p := [4]api.Point{at(corner), at(corner ^ 1), at(corner ^ 2), at(corner ^ 4)}
		s, e := solid.Wedge(low, high, corner)
		if want := errorOf(p); want != api.OK {
			hasNoFaces(t, "Wedge", s, e, want)
			continue
		}
		same(t, "Wedge", s, e, hull(t, p))
		isRight(t, "Wedge", s)
	}
}

func TestWedge(t *testing.T) {
	s, e := solid.Wedge([3]int64{0, 0, 0}, [3]int64{1, 1, 1}, 0)
	same(t, "Wedge 0", s, e, inOrder(
		api.Face{Plane: api.Plane{-1, 0, 0, 0}, Loops: [][]api.Point{points(0, 0, 0, 0, 0, 1, 0, 1, 0)}},
		api.Face{Plane: api.Plane{0, -1, 0, 0}, Loops: [][]api.Point{points(0, 0, 0, 1, 0, 0, 0, 0, 1)}},
		api.Face{Plane: api.Plane{0, 0, -1, 0}, Loops: [][]api.Point{points(0, 0, 0, 0, 1, 0, 1, 0, 0)}},
		api.Face{Plane: api.Plane{1, 1, 1, -1}, Loops: [][]api.Point{points(0, 0, 1, 1, 0, 0, 0, 1, 0)}},
	))
	for corner, want := range map[int][]api.Point{
		1: points(0, 0, 0, 1, 0, 0, 1, 0, 3, 1, 2, 0),
		2: points(0, 0, 0, 0, 2, 0, 0, 2, 3, 1, 2, 0),
		3: points(0, 2, 0, 1, 0, 0, 1, 2, 0, 1, 2, 3),
		4: points(0, 0, 0, 0, 0, 3, 0, 2, 3, 1, 0, 3),
		7: points(0, 2, 3, 1, 0, 3, 1, 2, 0, 1, 2, 3),
	} {
		s, e := solid.Wedge([3]int64{0, 0, 0}, [3]int64{1, 2, 3}, corner)
		corners, f := solid.Corners(value(t, s, e))
		same(t, "Wedge", corners, f, want)
	}
	isWedge(t, [3]int64{-10000, -10000, -10000}, [3]int64{10000, 10000, 10000})
	isWedge(t, [3]int64{0, 0, 0}, [3]int64{1000, 1000, 1})
	isWedge(t, [3]int64{0, 0, 0}, [3]int64{1001, 1001, 1})
	isWedge(t, [3]int64{9000, -10000, 7}, [3]int64{10000, -9500, 8})
	isWedge(t, [3]int64{-10000, 0, 0}, [3]int64{10000, 1, 1})
	r := rolls(5)
	for range 20 {
		c := r.corners(12)
		isWedge(t, c[0], c[1])
	}
}

// stairs is the solid of a staircase: a polygon at z = 0 and z = 1, and what is between them.
func stairs(n int64) api.Solid {
	outline := [][2]int64{{0, 0}, {n, 0}}
	for x := n; x > 0; x-- {
		outline = append(outline, [2]int64{x, n - x + 1}, [2]int64{x - 1, n - x + 1})
	}
	var top, bottom []api.Point
	var faces []api.Face
	for i, a := range outline {
		b := outline[(i+1)%len(outline)]
		top = append(top, points(a[0], a[1], 1)...)
		bottom = append(points(a[0], a[1], 0), bottom...)
		loop := points(a[0], a[1], 0, b[0], b[1], 0, b[0], b[1], 1, a[0], a[1], 1)
		p := api.Plane{sign(b[1] - a[1]), sign(a[0] - b[0])}
		p[3] = -p[0]*a[0] - p[1]*a[1]
		faces = append(faces, api.Face{Plane: p, Loops: [][]api.Point{loop}})
	}
	faces = append(faces, api.Face{Plane: api.Plane{0, 0, 1, -1}, Loops: [][]api.Point{top}}, api.Face{Plane: api.Plane{0, 0, -1, 0}, Loops: [][]api.Point{bottom}})
	return inOrder(faces...)
}

func sign(n int64) int64 {
	return min(1, max(-1, n))
}

// counts are the number of corners, of edges and of faces.
func counts(t *testing.T, s api.Solid) [3]int {
	t.Helper()
	corners, e := solid.Corners(s)
	value(t, corners, e)
	edges, e := solid.Edges(s)
	value(t, edges, e)
	return [3]int{len(corners), len(edges), len(s.Faces)}
}

func TestStaircase(t *testing.T) {
	for n := range int64(12) {
		n++
		s, e := solid.Staircase(int(n))
		same(t, "Staircase", s, e, stairs(n))
		isRight(t, "Staircase", s)
		same(t, "Staircase", counts(t, s), api.OK, [3]int{int(4*n + 4), int(12*n + 12), int(2*n + 4)})
		hasPoints(t, "Staircase", s, func(q api.Point) bool {
			if q[0] < 0 || q[1] < 0 || q[2] < 0 || q[2] > q[3] || q[0] > n*q[3] {
				return false
			}
			return q[1] < (n-q[0]/q[3])*q[3]
		})
	}
	s, e := solid.Staircase(1)
	same(t, "one step", s, e, unit())
	s, e = solid.Staircase(2)
	same(t, "the second example", counts(t, value(t, s, e)), api.OK, [3]int{12, 36, 8})
	s, e = solid.Octahedron([3]int64{}, 1)
	same(t, "the second example", counts(t, value(t, s, e)), api.OK, [3]int{6, 24, 8})
}
