package boundary_test

import (
	"slices"
	"testing"

	"spokeshave/api"
	"spokeshave/boundary"
)

// everyOther is a set of n cubes that do not touch each other, of 39 planes.
func everyOther(t *testing.T, n int) set {
	t.Helper()
	s := set{planes: grid(13, 13, 13)}
	for k := 0; k < 12; k += 2 {
		for j := 0; j < 12; j += 2 {
			for i := 0; i < 12 && len(s.cells) < n; i += 2 {
				s.cells = append(s.cells, between(i, 12)+between(j, 12)+between(k, 12))
			}
		}
	}
	if len(s.cells) != n {
		t.Fatalf("%d cubes", len(s.cells))
	}
	return s
}

// cut is the same with a plane more, so that there are MaxPlanes. It cuts those cubes that it meets into two prisms: of those so many are left out.
func cut(t *testing.T, n, out int) set {
	t.Helper()
	s := everyOther(t, n)
	s.planes = append(s.planes, api.Plane{1, 1, 0, -11})
	all := cellsOf(t, s.planes)
	var cells []string
	for _, name := range all {
		if !slices.Contains(s.cells, name[:39]) {
			continue
		}
		if out > 0 && name[39] == '+' && slices.Contains(all, name[:39]+"-") {
			out--
			continue
		}
		cells = append(cells, name)
	}
	s.cells = cells
	return s
}

// At most MaxFaces faces: all else but Make is without such a limit.
func TestManyFaces(t *testing.T) {
	for _, c := range []struct{ cubes, out, faces int }{{66, 0, 396}, {66, 1, 395}, {67, 2, 400}, {67, 1, 401}, {67, 0, 402}, {68, 8, 400}, {216, 0, 1296}} {
		s := everyOther(t, c.cubes)
		if c.out > 0 {
			s = cut(t, c.cubes, c.out)
		}
		solid, e := boundary.Make(s.planes, s.cells)
		if c.faces > api.MaxFaces {
			hasNoFaces(t, "Make of many faces", solid, e, api.ErrLarge)
		} else if len(value(t, solid, e).Faces) != c.faces {
			t.Errorf("%d faces, want %d", len(solid.Faces), c.faces)
		}
		edges, e := boundary.Edges(s.planes, s.cells)
		corners, f := boundary.Corners(s.planes, s.cells)
		if len(value(t, edges, e)) != 24*c.cubes-6*c.out || len(value(t, corners, f)) != 8*c.cubes-2*c.out {
			t.Errorf("%d cubes: %d edges, %d corners", c.cubes, len(edges), len(corners))
		}
	}
	s := everyOther(t, 216)
	n := 0
	for i := range 13 {
		for _, outer := range []bool{true, false} {
			faces, e := boundary.Faces(s.planes, s.cells, i, outer)
			n += len(value(t, faces, e))
		}
	}
	if n != 432 {
		t.Errorf("%d faces of 216 cubes along an axis", n)
	}
}

// All bounded cells of MaxPlanes planes, and each second one.
func TestMaxPlanes(t *testing.T) {
	planes := grid(14, 13, 13)
	s := where(t, planes, func(string) bool { return true })
	same(t, "all boxes", s.numbers(t), api.OK, [4]int{8, 12, 6, 6})
	same(t, "all boxes", s.solid(t), api.OK, set{grid(2, 2, 2), []string{"+-+-+-"}}.scaled(t, 13, 12, 12))
	planes = general(40)
	// The signs of a point are those of a cubic with the coefficients 1, z, y, x at numbers in a row. A bounded cell has those with all three zeros between them.
	var cells []string
	for _, name := range cellsOf(t, planes) {
		if changes(name) == 3 {
			cells = append(cells, name)
		}
	}
	if len(cells) != 39*38*37/6 {
		t.Fatalf("%d bounded cells", len(cells))
	}
	r := rolls(9)
	isClosed(t, set{planes, cells})
	isClosed(t, set{planes, r.shuffled(r.some(cells, 50))})
	needed, e := boundary.Needed(planes, cells)
	if len(value(t, needed, e)) != 40 {
		t.Errorf("Needed of all bounded cells: %v", needed)
	}
}

// scaled is the solid of a box with its corners moved.
func (s set) scaled(t *testing.T, by ...int64) api.Solid {
	t.Helper()
	solid := s.solid(t)
	for _, f := range solid.Faces {
		for _, loop := range f.Loops {
			for k := range loop {
				for i, n := range by {
					loop[k][i] *= n
				}
			}
		}
	}
	for k := range solid.Faces {
		p := &solid.Faces[k].Plane
		for i, n := range by {
			if p[i] > 0 {
				p[3] *= n
			}
		}
	}
	return solid
}

// changes are how often a sign is followed by another one.
func changes(s string) int {
	n := 0
	for i := range len(s) - 1 {
		if s[i] != s[i+1] {
			n++
		}
	}
	return n
}

// isClosed checks that each edge is there as often as its opposite, and that lists are in order.
func isClosed(t *testing.T, s set) {
	t.Helper()
	edges, e := boundary.Edges(s.planes, s.cells)
	count := map[[2]api.Point]int{}
	used := map[api.Point]bool{}
	for i, edge := range value(t, edges, e) {
		count[edge]++
		count[[2]api.Point{edge[1], edge[0]}]--
		used[edge[0]] = true
		if i > 0 && order(edges[i-1][0], edge[0]) > 0 {
			t.Fatalf("edge %d is not in order", i)
		}
	}
	for edge, n := range count {
		if n != 0 {
			t.Errorf("%v is there %d times more often than its opposite", edge, n)
		}
	}
	corners, e := boundary.Corners(s.planes, s.cells)
	if len(value(t, corners, e)) != len(used) || !slices.IsSortedFunc(corners, order) {
		t.Errorf("%d corners, of which edges have %d", len(corners), len(used))
	}
}
