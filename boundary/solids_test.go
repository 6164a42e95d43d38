package boundary_test

import (
	"slices"
	"testing"

	"spokeshave/api"
	"spokeshave/boundary"
	"spokeshave/plane"
	"spokeshave/point"
)

// The document's first example, as chapter 8 lists it.
func TestCube(t *testing.T) {
	want := api.Solid{Faces: []api.Face{
		{Plane: api.Plane{-1, 0, 0, 0}, Loops: [][]api.Point{points(0, 0, 0, 0, 0, 1, 0, 1, 1, 0, 1, 0)}},
		{Plane: api.Plane{0, -1, 0, 0}, Loops: [][]api.Point{points(0, 0, 0, 1, 0, 0, 1, 0, 1, 0, 0, 1)}},
		{Plane: api.Plane{0, 0, -1, 0}, Loops: [][]api.Point{points(0, 0, 0, 0, 1, 0, 1, 1, 0, 1, 0, 0)}},
		{Plane: api.Plane{0, 0, 1, -1}, Loops: [][]api.Point{points(0, 0, 1, 1, 0, 1, 1, 1, 1, 0, 1, 1)}},
		{Plane: api.Plane{0, 1, 0, -1}, Loops: [][]api.Point{points(0, 1, 0, 0, 1, 1, 1, 1, 1, 1, 1, 0)}},
		{Plane: api.Plane{1, 0, 0, -1}, Loops: [][]api.Point{points(1, 0, 0, 1, 1, 0, 1, 1, 1, 1, 0, 1)}},
	}}
	s, e := boundary.Make(cube(), []string{"------"})
	same(t, "Make of a cube", s, e, want)
	corners, e := boundary.Corners(cube(), []string{"------"})
	same(t, "Corners of a cube", corners, e, points(0, 0, 0, 0, 0, 1, 0, 1, 0, 0, 1, 1, 1, 0, 0, 1, 0, 1, 1, 1, 0, 1, 1, 1))
	edges, e := boundary.Edges(cube(), []string{"------"})
	var l [][2]api.Point
	for _, a := range corners {
		for _, b := range corners {
			if d, _ := point.Distance(a, b); d == "1" {
				l = append(l, [2]api.Point{a, b})
			}
		}
	}
	same(t, "Edges of a cube", edges, e, l)
	if len(edges) != 24 {
		t.Errorf("%d edges", len(edges))
	}
	for i, p := range cube() {
		faces, e := boundary.Faces(cube(), []string{"------"}, i, true)
		n := slices.IndexFunc(want.Faces, func(f api.Face) bool { return f.Plane == p })
		same(t, "Faces of a cube", faces, e, want.Faces[n:n+1])
		faces, e = boundary.Faces(cube(), []string{"------"}, i, false)
		same(t, "Faces of a cube inside", faces, e, []api.Face(nil))
	}
}

// Sets without faces: no cells of no planes, of planes that have bounded cells, and of planes that have none.
func TestNoCells(t *testing.T) {
	for _, planes := range [][]api.Plane{nil, {}, {{1, 2, 3, 4}}, cube(), parallels(40), prism(40), general(40)} {
		for _, names := range [][]string{nil, {}} {
			s, e := boundary.Make(planes, names)
			hasNoFaces(t, "Make of no cells", s, e, api.OK)
			corners, e := boundary.Corners(planes, names)
			fails(t, "Corners of no cells", corners, e, api.OK)
			edges, e := boundary.Edges(planes, names)
			fails(t, "Edges of no cells", edges, e, api.OK)
			for _, i := range []int{0, 1, len(planes) - 1} {
				faces, e := boundary.Faces(planes, names, i, i > 0)
				want := api.OK
				if i < 0 || i >= len(planes) {
					want = api.ErrArg
				}
				fails(t, "Faces of no cells", faces, e, want)
			}
		}
	}
}

// The document's second example, as its definitions make it.
func TestCellsThatTouchAlongAnEdge(t *testing.T) {
	s := blocks([]string{"#.", ".#"})
	check(t, "two along an edge", s)
	edges, e := boundary.Edges(s.planes, s.cells)
	low, high := points(1, 1, 0)[0], points(1, 1, 1)[0]
	n, back := 0, 0
	for _, edge := range value(t, edges, e) {
		switch edge {
		case [2]api.Point{low, high}:
			n++
		case [2]api.Point{high, low}:
			back++
		}
	}
	if n != 2 || back != 2 {
		t.Errorf("the edge is there %d times, its opposite %d times", n, back)
	}
	same(t, "the numbers", s.numbers(t), api.OK, [4]int{14, 24, 12, 12})
	// The planes x = 1 and y = 1 have a face on each of their sides.
	same(t, "a face", s.face(t, 1, true), api.OK, api.Face{Plane: api.Plane{1, 0, 0, -1}, Loops: [][]api.Point{points(1, 0, 0, 1, 1, 0, 1, 1, 1, 1, 0, 1)}})
	same(t, "a face", s.face(t, 1, false), api.OK, api.Face{Plane: api.Plane{-1, 0, 0, 1}, Loops: [][]api.Point{points(1, 1, 0, 1, 1, 1, 1, 2, 1, 1, 2, 0)}})
}

// Numbers of corners, pairs of edges, loops and faces.
func TestNumbers(t *testing.T) {
	full, empty := []string{"###", "###", "###"}, []string{"...", "...", "..."}
	ring, middle := []string{"###", "#.#", "###"}, []string{"...", ".#.", "..."}
	for _, c := range []struct {
		name   string
		layers [][]string
		want   [4]int
	}{
		{"a cube", [][]string{{"#"}}, [4]int{8, 12, 6, 6}},
		{"a bar of two cells", [][]string{{"##"}}, [4]int{8, 12, 6, 6}},
		{"all cells", [][]string{full, full, full}, [4]int{8, 12, 6, 6}},
		{"two cells that touch along an edge", [][]string{{"#.", ".#"}}, [4]int{14, 24, 12, 12}},
		{"two cells that touch in a corner", [][]string{{"#.", ".."}, {"..", ".#"}}, [4]int{15, 24, 12, 12}},
		{"two parts", [][]string{{"#.#"}}, [4]int{16, 24, 12, 12}},
		{"stairs", [][]string{{"##", "##"}, {"#.", "#."}}, [4]int{12, 18, 8, 8}},
		{"a cube on a slab", [][]string{full, middle}, [4]int{16, 24, 12, 11}},
		{"a cube on the corner of a slab", [][]string{full, {"#..", "...", "..."}}, [4]int{14, 21, 9, 9}},
		{"a hole through it", [][]string{ring}, [4]int{16, 24, 12, 10}},
		{"a void", [][]string{full, ring, full}, [4]int{16, 24, 12, 12}},
		{"a cell in the middle", [][]string{empty, middle, empty}, [4]int{8, 12, 6, 6}},
		{"a cube in a void", [][]string{{"#####", "#####", "#####", "#####", "#####"}, {"#####", "#...#", "#...#", "#...#", "#####"}, {"#####", "#...#", "#.#.#", "#...#", "#####"}, {"#####", "#...#", "#...#", "#...#", "#####"}, {"#####", "#####", "#####", "#####", "#####"}}, [4]int{24, 36, 18, 18}},
		{"two bars that cross", [][]string{{"###"}, {"#.#"}}, [4]int{16, 24, 10, 10}},
		{"holes along all axes", [][]string{ring, {"#.#", "...", "#.#"}, ring}, [4]int{40, 72, 36, 30}},
	} {
		s := blocks(c.layers...)
		same(t, c.name, s.numbers(t), api.OK, c.want)
		check(t, c.name, s)
	}
}

// The numbers of chapters 8 and 10.
func TestNumbersOfOtherChapters(t *testing.T) {
	octahedron := []api.Plane{{1, 1, 1, -1}, {1, 1, -1, -1}, {1, -1, 1, -1}, {1, -1, -1, -1}, {-1, 1, 1, -1}, {-1, 1, -1, -1}, {-1, -1, 1, -1}, {-1, -1, -1, -1}}
	same(t, "an octahedron", set{octahedron, []string{"--------"}}.numbers(t), api.OK, [4]int{6, 12, 8, 8})
	wedge := []api.Plane{{-1, 0, 0, 0}, {0, -1, 0, 0}, {0, 0, -1, 0}, {1, 1, 1, -1}}
	same(t, "a wedge", set{wedge, []string{"----"}}.numbers(t), api.OK, [4]int{4, 6, 4, 4})
	same(t, "stairs", blocks([]string{"##", "#."}).numbers(t), api.OK, [4]int{12, 18, 8, 8})
	corner, both, other := []string{"##.", "##.", "..."}, []string{"##.", "###", ".##"}, []string{"...", ".##", ".##"}
	same(t, "a union", blocks(corner, both, other).numbers(t), api.OK, [4]int{20, 30, 12, 12})
	same(t, "a difference", blocks(corner, []string{"##.", "#..", "..."}, []string{"...", "...", "..."}).numbers(t), api.OK, [4]int{14, 21, 9, 9})
}

// top is the face of a layer of blocks that is seen from above.
func top(t *testing.T, rows ...string) api.Face {
	t.Helper()
	s := blocks(rows)
	check(t, "a layer "+rows[0], s)
	return s.face(t, len(s.planes)-1, true)
}

// flat are points at z = 1, two coordinates each.
func flat(l ...int64) []api.Point {
	var all []api.Point
	for i := 0; i < len(l); i += 2 {
		all = append(all, api.Point{l[i], l[i+1], 1, 1})
	}
	return all
}

// Loops of faces with holes, that touch or not, and with the rows along x from y = 0 on.
func TestLoops(t *testing.T) {
	for _, c := range []struct {
		name string
		rows []string
		want [][]api.Point
	}{
		{"one hole", []string{"###", "#.#", "###"}, [][]api.Point{flat(0, 0, 3, 0, 3, 3, 0, 3), flat(1, 1, 1, 2, 2, 2, 2, 1)}},
		{"several holes", []string{"#####", "#.#.#", "#####", "#..##", "#####"}, [][]api.Point{
			flat(0, 0, 5, 0, 5, 5, 0, 5), flat(1, 1, 1, 2, 2, 2, 2, 1), flat(1, 3, 1, 4, 3, 4, 3, 3), flat(3, 1, 3, 2, 4, 2, 4, 1)}},
		{"a hole that touches the outer loop in one point", []string{".###", "#.##", "####"}, [][]api.Point{
			flat(0, 1, 1, 1, 1, 2, 2, 2, 2, 1, 1, 1, 1, 0, 4, 0, 4, 3, 0, 3)}},
		{"a hole that touches the outer loop in two points", []string{".###", "#.##", "##.#", "####"}, [][]api.Point{
			flat(0, 1, 1, 1, 1, 2, 2, 2, 2, 3, 3, 3, 3, 2, 2, 2, 2, 1, 1, 1, 1, 0, 4, 0, 4, 4, 0, 4)}},
		{"two holes that touch each other", []string{"####", "#.##", "##.#", "####"}, [][]api.Point{
			flat(0, 0, 4, 0, 4, 4, 0, 4), flat(1, 1, 1, 2, 2, 2, 2, 3, 3, 3, 3, 2, 2, 2, 2, 1)}},
		{"two holes that touch each other the other way", []string{"####", "##.#", "#.##", "####"}, [][]api.Point{
			flat(0, 0, 4, 0, 4, 4, 0, 4), flat(1, 2, 1, 3, 2, 3, 2, 2, 3, 2, 3, 1, 2, 1, 2, 2)}},
		{"a chain of holes", []string{"#####", "#.#.#", "##.##", "#.#.#", "#####"}, [][]api.Point{
			flat(0, 0, 5, 0, 5, 5, 0, 5), flat(1, 1, 1, 2, 2, 2, 2, 3, 1, 3, 1, 4, 2, 4, 2, 3, 3, 3, 3, 4, 4, 4, 4, 3, 3, 3, 3, 2, 4, 2, 4, 1, 3, 1, 3, 2, 2, 2, 2, 1)}},
		{"an outer loop that touches itself", []string{"##.", "#.#", "###"}, [][]api.Point{
			flat(0, 0, 2, 0, 2, 1, 1, 1, 1, 2, 2, 2, 2, 1, 3, 1, 3, 3, 0, 3)}},
	} {
		same(t, c.name, top(t, c.rows...), api.OK, api.Face{Plane: api.Plane{0, 0, 1, -1}, Loops: c.want})
	}
}

// Faces on one plane, in order, some of which touch in points, one of which is in the hole of another one.
func TestFacesOnOnePlane(t *testing.T) {
	for _, c := range []struct {
		name string
		rows []string
		want [][][]api.Point
	}{
		{"two", []string{"#.#"}, [][][]api.Point{{flat(0, 0, 1, 0, 1, 1, 0, 1)}, {flat(2, 0, 3, 0, 3, 1, 2, 1)}}},
		{"two that touch in a point", []string{".#", "#."}, [][][]api.Point{{flat(0, 1, 1, 1, 1, 2, 0, 2)}, {flat(1, 0, 2, 0, 2, 1, 1, 1)}}},
		{"one in the hole of another one", []string{"#####", "#...#", "#.#.#", "#...#", "#####"}, [][][]api.Point{
			{flat(0, 0, 5, 0, 5, 5, 0, 5), flat(1, 1, 1, 4, 4, 4, 4, 1)}, {flat(2, 2, 3, 2, 3, 3, 2, 3)}}},
		{"one that touches the hole of another one", []string{"####", "#..#", "#.##", "####"}, [][][]api.Point{
			{flat(0, 0, 4, 0, 4, 4, 0, 4), flat(1, 1, 1, 3, 2, 3, 2, 2, 3, 2, 3, 1)}}},
		{"one that touches the hole of another one in points", []string{"#####", "#...#", "#.#.#", "##.##", "#####"}, [][][]api.Point{
			{flat(0, 0, 5, 0, 5, 5, 0, 5), flat(1, 1, 1, 3, 2, 3, 2, 4, 3, 4, 3, 3, 4, 3, 4, 1)}, {flat(2, 2, 3, 2, 3, 3, 2, 3)}}},
		{"a checkerboard", []string{"#.#", ".#.", "#.#"}, [][][]api.Point{
			{flat(0, 0, 1, 0, 1, 1, 0, 1)}, {flat(0, 2, 1, 2, 1, 3, 0, 3)}, {flat(1, 1, 2, 1, 2, 2, 1, 2)}, {flat(2, 0, 3, 0, 3, 1, 2, 1)}, {flat(2, 2, 3, 2, 3, 3, 2, 3)}}},
	} {
		s := blocks(c.rows)
		check(t, c.name, s)
		i := len(s.planes) - 1
		faces, e := boundary.Faces(s.planes, s.cells, i, true)
		var want []api.Face
		for _, loops := range c.want {
			want = append(want, api.Face{Plane: s.planes[i], Loops: loops})
		}
		same(t, c.name, faces, e, want)
	}
}

// A loop that comes to its first point twice: of two lists that begin there the first one in order is taken.
func TestLoopThatComesToItsFirstPointTwice(t *testing.T) {
	planes := []api.Plane{{1, -1, 0, 0}, {1, 1, 0, 0}, {1, 0, 0, -4}, {1, -2, 0, 0}, {1, 2, 0, 0}, {1, 0, 0, -2}, {0, 0, 1, 0}, {0, 0, 1, -1}}
	isOuter := func(s string) bool { return s[:3] == "++-" && s[6:] == "+-" }
	isInner := func(s string) bool { return s[3:6] == "++-" }
	s := where(t, planes, func(s string) bool { return isOuter(s) && !isInner(s) })
	check(t, "a triangle in a triangle", s)
	same(t, "the loop from above", s.face(t, 7, true).Loops, api.OK, [][]api.Point{flat(0, 0, 2, 1, 2, -1, 0, 0, 4, -4, 4, 4)})
	bottom := s.face(t, 6, false)
	same(t, "the loop from below", bottom, api.OK, api.Face{Plane: api.Plane{0, 0, -1, 0}, Loops: [][]api.Point{points(0, 0, 0, 2, -1, 0, 2, 1, 0, 0, 0, 0, 4, 4, 0, 4, -4, 0)}})
}

// Loops that come to one point three times, in the middle and as the first one.
func TestLoopThatComesToAPointOften(t *testing.T) {
	planes := []api.Plane{{0, 1, 0, 0}, {1, -1, 0, 0}, {1, 1, 0, 0}, {1, 0, 0, -2}, {1, 0, 0, 2}, {0, 1, 0, -2}, {0, 1, 0, 2}, {1, 0, 0, -4}, {1, 0, 0, 4}, {0, 1, 0, -4}, {0, 1, 0, 4}, {0, 0, 1, 0}, {0, 0, 1, -1}}
	small := func(s string) bool { return s[3:7] == "-+-+" }
	// Three sectors of the small square round 0, 0 are left out, no two of them next to each other.
	s := where(t, planes, func(s string) bool {
		isIn := s[7:11] == "-+-+" && s[11:] == "+-"
		out := s[:3] == "+-+" || s[:3] == "---" || s[:3] == "-++"
		return isIn && !(small(s) && out)
	})
	check(t, "sectors that are left out", s)
	f := s.face(t, 12, true)
	if len(f.Loops) != 2 || len(f.Loops[0]) != 4 {
		t.Fatalf("%v", f)
	}
	n := 0
	for _, q := range f.Loops[1] {
		if q == (api.Point{0, 0, 1, 1}) {
			n++
		}
	}
	if n != 3 {
		t.Errorf("%v comes to 0, 0 %d times", f.Loops[1], n)
	}
}

// Corners of other faces on straight sides are points of the loops, and corners in the middle of a face are not.
func TestCornersOfOtherFaces(t *testing.T) {
	s := blocks([]string{"#.", ".#"}, []string{"#.", ".."})
	check(t, "a cell at a half of an edge", s)
	same(t, "the face", s.face(t, 1, true), api.OK, api.Face{Plane: api.Plane{1, 0, 0, -1}, Loops: [][]api.Point{points(1, 0, 0, 1, 1, 0, 1, 1, 1, 1, 1, 2, 1, 0, 2)}})
	// The tip of a pyramid stands on a box: in the middle of its top, on a side of that, and in a corner.
	for _, c := range []struct {
		x, count int64
	}{{0, 4}, {2, 5}} {
		planes := []api.Plane{{1, 0, 0, 2}, {1, 0, 0, -2}, {0, 1, 0, 2}, {0, 1, 0, -2}, {0, 0, 1, 1}, {0, 0, 1, 0}, {1, 0, 1, -c.x}, {1, 0, -1, -c.x}, {0, 1, 1, 0}, {0, 1, -1, 0}, {0, 0, 1, -1}}
		s := where(t, planes, func(s string) bool { return s[:6] == "+-+-+-" || s[5:] == "++-+--" })
		check(t, "a pyramid on a box", s)
		f := s.face(t, 5, true)
		corners, e := boundary.Corners(s.planes, s.cells)
		if !slices.Contains(value(t, corners, e), api.Point{c.x, 0, 0, 1}) || int64(len(f.Loops[0])) != c.count || len(f.Loops) != 1 {
			t.Errorf("at %d: %v, %v", c.x, f, corners)
		}
	}
}

// Regions on a plane and on its opposite that meet in a segment, or in a point.
func TestFacesOnBothSidesOfAPlane(t *testing.T) {
	s := blocks([]string{"#.", "#."}, []string{".#", ".#"})
	check(t, "two bars", s)
	i := len(s.planes) - 2
	same(t, "the upper side", s.face(t, i, true), api.OK, api.Face{Plane: api.Plane{0, 0, 1, -1}, Loops: [][]api.Point{points(0, 0, 1, 1, 0, 1, 1, 2, 1, 0, 2, 1)}})
	same(t, "the lower side", s.face(t, i, false), api.OK, api.Face{Plane: api.Plane{0, 0, -1, 1}, Loops: [][]api.Point{points(1, 0, 1, 1, 2, 1, 2, 2, 1, 2, 0, 1)}})
	s = blocks([]string{"#.", ".."}, []string{"..", ".#"})
	same(t, "the upper side", s.face(t, i, true), api.OK, api.Face{Plane: api.Plane{0, 0, 1, -1}, Loops: [][]api.Point{points(0, 0, 1, 1, 0, 1, 1, 1, 1, 0, 1, 1)}})
	same(t, "the lower side", s.face(t, i, false), api.OK, api.Face{Plane: api.Plane{0, 0, -1, 1}, Loops: [][]api.Point{points(1, 1, 1, 1, 2, 1, 2, 2, 1, 2, 1, 1)}})
	// A side goes straight on where the plane's region ends and the opposite one's begins.
	s = blocks([]string{"##", ".."}, []string{"..", "##"})
	check(t, "two bars side by side", s)
	same(t, "the numbers", s.numbers(t), api.OK, [4]int{14, 24, 12, 12})
}

// Cells round a line: each second one, and some that hang together.
func TestCellsRoundALine(t *testing.T) {
	planes := []api.Plane{{1, 0, 0, 0}, {0, 1, 0, 0}, {1, 1, 0, 0}, {1, -1, 0, 0}, {1, 0, 0, -1}, {1, 0, 0, 1}, {0, 1, 0, -1}, {0, 1, 0, 1}, {0, 0, 1, 0}, {0, 0, 1, -1}}
	sectors := []string{"+++-", "++++", "+-++", "+--+", "---+", "----", "-+--", "-++-"}
	all := bounded(t, planes)
	for choice := range 256 {
		s := set{planes: planes}
		for _, name := range all {
			if k := slices.Index(sectors, name[:4]); choice>>k&1 == 1 {
				s.cells = append(s.cells, name)
			}
		}
		check(t, "sectors", s)
		edges, e := boundary.Edges(s.planes, s.cells)
		n := 0
		for _, edge := range value(t, edges, e) {
			if edge == [2]api.Point{{0, 0, 0, 1}, {0, 0, 1, 1}} {
				n++
			}
		}
		// Where a sector begins, the line is the edge of a face, unless another face on the same plane ends there.
		want := 0
		for k := range sectors {
			is := func(k int) int { return choice >> (k % 8) & 1 }
			begins, across := is(k) == 1 && is(k+7) == 0, is(k+4) == 0 && is(k+3) == 1
			if begins && !across {
				want++
			}
		}
		if n != want {
			t.Errorf("sectors %08b: the line is an edge %d times, want %d", choice, n, want)
		}
	}
}

// Planes with the greatest coefficients and offsets.
func TestGreatestPlanes(t *testing.T) {
	box := []api.Plane{{-1000, 0, 0, -999999}, {1000, 0, 0, -999999}, {0, -1, 0, -1000000}, {0, 1, 0, -1000000}, {0, 0, -1, -1000000}, {0, 0, 999, -1000000}}
	s := set{box, []string{"------"}}
	check(t, "a great box", s)
	x, z := int64(999999), int64(1000000)
	same(t, "a side of a great box", s.face(t, 1, true).Loops, api.OK, [][]api.Point{{{x, -1000 * z, -1000 * z, 1000}, {x, 1000 * z, -1000 * z, 1000}, {999 * x, 999000 * z, 1000 * z, 999000}, {999 * x, -999000 * z, 1000 * z, 999000}}})
	for name, planes := range map[string][]api.Plane{
		"a thin tetrahedron":  {{1000, 999, 998, 0}, {-1000, -999, -997, 0}, {0, 1, 0, -1000000}, {-999, -1000, 0, 1}},
		"a small tetrahedron": {{1000, 999, 997, -1000000}, {-1000, 999, 997, 999999}, {999, -1000, 997, -999998}, {997, 1000, -999, 999997}},
		"a far tetrahedron":   {{1000, 1, 0, 1000000}, {0, 1000, 1, 1000000}, {1, 0, 1000, 1000000}, {-1000, -999, -998, -1000000}},
	} {
		cells := bounded(t, planes)
		if len(cells) != 1 {
			t.Fatalf("%s: %v", name, cells)
		}
		s := set{planes, cells}
		check(t, name, s)
		same(t, name, s.numbers(t), api.OK, [4]int{4, 6, 4, 4})
		for _, f := range s.solid(t).Faces {
			p, e := plane.Through(f.Loops[0][0], f.Loops[0][1], f.Loops[0][2])
			same(t, name, p, e, f.Plane)
		}
	}
}
