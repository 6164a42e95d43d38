package solid_test

import (
	"slices"
	"testing"

	"spokeshave/api"
	"spokeshave/solid"
)

// hasNoFaces checks a solid that is empty.
func hasNoFaces(t *testing.T, what string, got api.Solid, e, want api.Errno) {
	t.Helper()
	if e != want || len(got.Faces) != 0 {
		t.Errorf("%s: %v, error %d, want error %d", what, got, e, want)
	}
}

// fails checks that a list is empty next to an error.
func fails[T any](t *testing.T, what string, got []T, e, want api.Errno) {
	t.Helper()
	if e != want || len(got) != 0 {
		t.Errorf("%s: %v, error %d, want error %d", what, got, e, want)
	}
}

// hasNoBounds checks that bounds are empty next to an error.
func hasNoBounds(t *testing.T, s api.Solid, want api.Errno) {
	t.Helper()
	low, high, e := solid.Bounds(s)
	if e != want || low != [3]string{} || high != [3]string{} {
		t.Errorf("Bounds: %v, %v, error %d, want error %d", low, high, e, want)
	}
}

// isFalse checks that Equal is false next to an error.
func isFalse(t *testing.T, a, b api.Solid, want api.Errno) {
	t.Helper()
	if equal, e := solid.Equal(a, b); equal || e != want {
		t.Errorf("Equal: %v, error %d, want error %d", equal, e, want)
	}
}

// lists of planes that are right or not, for Cells.
func planeLists() [][]api.Plane {
	p := api.Plane{3, -2, 0, 5}
	return [][]api.Plane{nil, cube(), {p, p}, {p, opposite(p)}, {{}}, general(40), general(41), append(general(41), api.Plane{2, 0, 0, 0}), append(cube(), cube()[0])}
}

// ErrSolid comes first in all functions that take solids.
func TestWrongSolids(t *testing.T) {
	good := unit()
	for _, s := range wrongSolids(t) {
		isWrong(t, "Check", s)
		planes, e := solid.Planes(s)
		fails(t, "Planes", planes, e, api.ErrSolid)
		corners, e := solid.Corners(s)
		fails(t, "Corners", corners, e, api.ErrSolid)
		edges, e := solid.Edges(s)
		fails(t, "Edges", edges, e, api.ErrSolid)
		hasNoBounds(t, s, api.ErrSolid)
		isFalse(t, s, good, api.ErrSolid)
		isFalse(t, good, s, api.ErrSolid)
		isFalse(t, s, s, api.ErrSolid)
		isFalse(t, s, api.Solid{}, api.ErrSolid)
		for _, l := range planeLists() {
			cells, e := solid.Cells(s, l)
			fails(t, "Cells", cells, e, api.ErrSolid)
		}
	}
}

// Data that are not right in each place of a solid.
func TestWrongData(t *testing.T) {
	for i := range unit().Faces {
		for _, p := range wrongPlanes() {
			s := unit()
			s.Faces[i].Plane = p
			isWrong(t, "a wrong plane", s)
			isWrong(t, "a wrong plane without loops", api.Solid{Faces: append(unit().Faces, api.Face{Plane: p})})
			isWrong(t, "a wrong plane with an empty loop", api.Solid{Faces: append(unit().Faces, api.Face{Plane: p, Loops: [][]api.Point{{}}})})
		}
		for _, q := range wrongPoints() {
			for k := range 4 {
				s := unit()
				s.Faces[i].Loops[0][k] = q
				isWrong(t, "a wrong point", s)
			}
		}
	}
	for _, s := range []api.Solid{
		{Faces: make([]api.Face, 1)}, {Faces: make([]api.Face, 100000)}, {Faces: []api.Face{{Plane: api.Plane{1, 0, 0, 0}}}},
		{Faces: []api.Face{{Plane: api.Plane{1, 0, 0, 0}, Loops: make([][]api.Point, 100000)}}},
		{Faces: []api.Face{{Loops: [][]api.Point{make([]api.Point, 100000)}}}},
		{Faces: []api.Face{{Plane: api.Plane{1, 0, 0, 0}, Loops: [][]api.Point{slices.Repeat(points(0, 0, 0, 0, 1, 0, 0, 0, 1), 50000)}}}},
		{Faces: slices.Repeat(unit().Faces, 66)}, {Faces: slices.Repeat(unit().Faces, 67)},
	} {
		isWrong(t, "much that is wrong", s)
	}
}

// The errors of chapter 6 come before a plane that is not there.
func TestCellsErrors(t *testing.T) {
	p := api.Plane{3, -2, 0, 5}
	for _, s := range []api.Solid{{}, unit(), half(), stairs(3)} {
		for _, wrong := range wrongPlanes() {
			for _, l := range [][]api.Plane{nil, cube(), {p, p}, general(40), general(41), slices.Repeat(cube(), 9)} {
				for _, at := range []int{0, len(l) / 2, len(l)} {
					cells, e := solid.Cells(s, slices.Insert(slices.Clone(l), at, wrong))
					fails(t, "Cells with a wrong plane", cells, e, api.ErrPlane)
				}
			}
		}
		for _, l := range [][]api.Plane{general(41), slices.Repeat(cube(), 7), append(cube(), general(35)...), append(general(40), p)} {
			cells, e := solid.Cells(s, l)
			fails(t, "Cells with many planes", cells, e, api.ErrLarge)
		}
		for _, l := range [][]api.Plane{{p, p}, {p, opposite(p)}, append(cube(), cube()[5]), append(cube(), opposite(cube()[0]))} {
			cells, e := solid.Cells(s, l)
			fails(t, "Cells with coincident planes", cells, e, api.ErrCells)
		}
		planes, e := solid.Planes(s)
		for i := range value(t, planes, e) {
			for _, l := range [][]api.Plane{slices.Delete(slices.Clone(planes), i, i+1), slices.Replace(slices.Clone(planes), i, i+1, p)} {
				cells, e := solid.Cells(s, l)
				fails(t, "Cells without a plane", cells, e, api.ErrArg)
			}
		}
	}
	cells, e := solid.Cells(unit(), nil)
	fails(t, "Cells of no planes", cells, e, api.ErrArg)
}

// far are numbers that are not from -10000 to 10000.
func far() []int64 {
	return []int64{-10001, 10001, -1 << 32, 1 << 32, 1<<32 + 1, least, least + 1, greatest}
}

func TestShapesOutOfRange(t *testing.T) {
	for axis := range 3 {
		for _, n := range far() {
			low, high := [3]int64{-1, -2, -3}, [3]int64{1, 2, 3}
			centre := low
			centre[axis] = n
			s, e := solid.Octahedron(centre, 5)
			hasNoFaces(t, "Octahedron", s, e, api.ErrArg)
			for _, ends := range [][2][3]int64{{centre, high}, {low, centre}, {centre, centre}, {low, low}} {
				s, e := solid.Box(ends[0], ends[1])
				hasNoFaces(t, "Box", s, e, api.ErrArg)
				for corner := range 8 {
					s, e := solid.Wedge(ends[0], ends[1], corner)
					hasNoFaces(t, "Wedge", s, e, api.ErrArg)
				}
			}
		}
		for _, n := range []int64{0, -1, 1, -10000, 10000} {
			for _, m := range []int64{n, n - 1, -10000} {
				low, high := [3]int64{-1, -1, -1}, [3]int64{1, 1, 1}
				low[axis], high[axis] = n, max(m, -10000)
				s, e := solid.Box(low, high)
				hasNoFaces(t, "a flat Box", s, e, api.ErrArg)
				s, e = solid.Wedge(low, high, 5)
				hasNoFaces(t, "a flat Wedge", s, e, api.ErrArg)
			}
		}
	}
	for _, r := range append(far()[1:], 0, -1, -10000, 10001) {
		s, e := solid.Octahedron([3]int64{1, 2, 3}, r)
		hasNoFaces(t, "Octahedron", s, e, api.ErrArg)
	}
	for _, corner := range []int{-1, 8, 9, 15, 16, -8, 1 << 32, least, greatest} {
		s, e := solid.Wedge([3]int64{}, [3]int64{1, 1, 1}, corner)
		hasNoFaces(t, "Wedge", s, e, api.ErrArg)
		s, e = solid.Wedge([3]int64{}, [3]int64{1001, 1000, 1}, corner)
		hasNoFaces(t, "a large Wedge", s, e, api.ErrArg)
	}
	for _, steps := range []int{0, -1, 13, 14, 100, 1 << 32, 1<<32 + 1, least, greatest} {
		s, e := solid.Staircase(steps)
		hasNoFaces(t, "Staircase", s, e, api.ErrArg)
	}
	s, e := solid.Wedge([3]int64{}, [3]int64{1001, 1000, 1}, 7)
	hasNoFaces(t, "a large Wedge", s, e, api.ErrLarge)
}

// ErrPoint comes first, ErrNone before ErrLarge.
func TestTetrahedronErrors(t *testing.T) {
	good := [4]api.Point{{0, 0, 0, 1}, {1, 0, 0, 1}, {0, 1, 0, 1}, {0, 0, 1, 1}}
	flat := [4]api.Point{{0, 0, 0, 1}, {1, 0, 0, 1}, {0, 1, 0, 1}, {7, 7, 0, 3}}
	large := [4]api.Point{{0, 0, 0, 1}, {1001, 0, 0, 1}, {0, 1000, 0, 1}, {0, 0, 1, 1}}
	for _, p := range [][4]api.Point{good, flat, large, {}, {good[0], good[0], good[0], good[0]}} {
		for i := range p {
			for _, q := range wrongPoints() {
				p := p
				p[i] = q
				s, e := solid.Tetrahedron(p)
				hasNoFaces(t, "Tetrahedron of a wrong point", s, e, api.ErrPoint)
			}
		}
	}
	big := api.Point{1 << 43, 1<<43 - 1, 1<<43 - 3, 1<<33 - 1}
	for _, p := range [][4]api.Point{
		flat, {good[0], good[0], good[0], good[0]}, {good[0], good[0], good[1], good[2]}, {good[1], good[2], good[3], good[1]}, {good[1], good[2], good[3], good[3]},
		{good[0], good[1], {1, 0, 0, 2}, good[3]}, {good[0], {1, 1, 1, 1}, {2, 2, 2, 1}, {3, 3, 3, 1}},
		{big, big, big, good[0]}, {big, good[0], {1, 1, 1, 1 << 33}, good[0]}, {{1000000, 0, 0, 1}, {0, 999999, 0, 1}, {1, 1, 0, 999983}, {5, 7, 0, 1}}, {{1 << 43, 0, 0, 1}, {0, 1 << 43, 0, 1}, {0, 0, 1 << 43, 1}, {1 << 43, 0, 0, 1}},
	} {
		s, e := solid.Tetrahedron(p)
		hasNoFaces(t, "a flat Tetrahedron", s, e, api.ErrNone)
	}
	for _, p := range [][4]api.Point{
		large, {good[0], good[1], good[2], big}, {big, good[1], good[2], good[3]}, {good[0], good[1], good[2], {0, 0, 1, 1 << 33}}, {{1 << 43, 0, 0, 1}, {0, 1 << 43, 0, 1}, {0, 0, 1 << 43, 1}, good[0]},
		{{1000001, 0, 0, 1}, {1000002, 0, 0, 1}, {1000001, 1, 0, 1}, {1000001, 0, 1, 1}},
	} {
		s, e := solid.Tetrahedron(p)
		hasNoFaces(t, "a large Tetrahedron", s, e, api.ErrLarge)
	}
}
