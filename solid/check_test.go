package solid_test

import (
	"maps"
	"reflect"
	"slices"
	"testing"

	"spokeshave/api"
	"spokeshave/boundary"
	"spokeshave/solid"
)

// unit is the box from 0 to 1, as the document's first example lists it.
func unit() api.Solid {
	return api.Solid{Faces: []api.Face{
		{Plane: api.Plane{-1, 0, 0, 0}, Loops: [][]api.Point{points(0, 0, 0, 0, 0, 1, 0, 1, 1, 0, 1, 0)}},
		{Plane: api.Plane{0, -1, 0, 0}, Loops: [][]api.Point{points(0, 0, 0, 1, 0, 0, 1, 0, 1, 0, 0, 1)}},
		{Plane: api.Plane{0, 0, -1, 0}, Loops: [][]api.Point{points(0, 0, 0, 0, 1, 0, 1, 1, 0, 1, 0, 0)}},
		{Plane: api.Plane{0, 0, 1, -1}, Loops: [][]api.Point{points(0, 0, 1, 1, 0, 1, 1, 1, 1, 0, 1, 1)}},
		{Plane: api.Plane{0, 1, 0, -1}, Loops: [][]api.Point{points(0, 1, 0, 0, 1, 1, 1, 1, 1, 1, 1, 0)}},
		{Plane: api.Plane{1, 0, 0, -1}, Loops: [][]api.Point{points(1, 0, 0, 1, 1, 0, 1, 1, 1, 1, 0, 1)}},
	}}
}

// ring is the box from 0 to 3 with a hole through it along z, from 1 to 2.
func ring() api.Solid {
	side := func(p api.Plane, l ...int64) api.Face { return api.Face{Plane: p, Loops: [][]api.Point{points(l...)}} }
	return api.Solid{Faces: []api.Face{
		side(api.Plane{-1, 0, 0, 0}, 0, 0, 0, 0, 0, 1, 0, 3, 1, 0, 3, 0),
		side(api.Plane{-1, 0, 0, 2}, 2, 1, 0, 2, 1, 1, 2, 2, 1, 2, 2, 0),
		side(api.Plane{0, -1, 0, 0}, 0, 0, 0, 3, 0, 0, 3, 0, 1, 0, 0, 1),
		side(api.Plane{0, -1, 0, 2}, 1, 2, 0, 2, 2, 0, 2, 2, 1, 1, 2, 1),
		{Plane: api.Plane{0, 0, -1, 0}, Loops: [][]api.Point{points(0, 0, 0, 0, 3, 0, 3, 3, 0, 3, 0, 0), points(1, 1, 0, 2, 1, 0, 2, 2, 0, 1, 2, 0)}},
		{Plane: api.Plane{0, 0, 1, -1}, Loops: [][]api.Point{points(0, 0, 1, 3, 0, 1, 3, 3, 1, 0, 3, 1), points(1, 1, 1, 1, 2, 1, 2, 2, 1, 2, 1, 1)}},
		side(api.Plane{0, 1, 0, -3}, 0, 3, 0, 0, 3, 1, 3, 3, 1, 3, 3, 0),
		side(api.Plane{0, 1, 0, -1}, 1, 1, 0, 1, 1, 1, 2, 1, 1, 2, 1, 0),
		side(api.Plane{1, 0, 0, -3}, 3, 0, 0, 3, 3, 0, 3, 3, 1, 3, 0, 1),
		side(api.Plane{1, 0, 0, -1}, 1, 1, 0, 1, 2, 0, 1, 2, 1, 1, 1, 1),
	}}
}

// half is the tetrahedron with the corners 0, 1/2 on x, 1/3 on y and 1 on z.
func half() api.Solid {
	o, x, y, z := api.Point{0, 0, 0, 1}, api.Point{1, 0, 0, 2}, api.Point{0, 1, 0, 3}, api.Point{0, 0, 1, 1}
	return api.Solid{Faces: []api.Face{
		{Plane: api.Plane{-1, 0, 0, 0}, Loops: [][]api.Point{{o, z, y}}},
		{Plane: api.Plane{0, -1, 0, 0}, Loops: [][]api.Point{{o, x, z}}},
		{Plane: api.Plane{0, 0, -1, 0}, Loops: [][]api.Point{{o, y, x}}},
		{Plane: api.Plane{2, 3, 1, -1}, Loops: [][]api.Point{{z, x, y}}},
	}}
}

// byHand are solids that are written down.
func byHand() map[string]api.Solid {
	return map[string]api.Solid{"the empty solid": {}, "the unit box": unit(), "a ring": inOrder(ring().Faces...), "a tetrahedron": half()}
}

// solids are right, and not empty but for one.
func solids(t *testing.T) map[string]api.Solid {
	t.Helper()
	l := byHand()
	for name, s := range sets(t) {
		l[name] = s.solid(t)
	}
	return l
}

func TestRight(t *testing.T) {
	isRight(t, "nothing", api.Solid{})
	isRight(t, "no faces", api.Solid{Faces: []api.Face{}})
	all := solids(t)
	for name, s := range all {
		isRight(t, name, s)
	}
	if len(all) < 80 {
		t.Errorf("only %d solids", len(all))
	}
}

// All single cells: convex solids of many kinds.
func TestRightCells(t *testing.T) {
	for name, planes := range lists() {
		for _, cell := range bounded(t, planes) {
			isRight(t, name+" "+cell, set{planes, []string{cell}}.solid(t))
		}
	}
}

// matching is the set of those bounded cells of planes whose signs are those of one of several patterns, wherever these have one.
func matching(t *testing.T, planes []api.Plane, patterns ...string) set {
	t.Helper()
	s := set{planes: planes}
	for _, name := range bounded(t, planes) {
		matches := func(pattern string) bool {
			for i, c := range []byte(pattern) {
				if c != ' ' && c != name[i] {
					return false
				}
			}
			return true
		}
		if slices.ContainsFunc(patterns, matches) {
			s.cells = append(s.cells, name)
		}
	}
	return s
}

// A face is not divided where another part of the solid, or a gap in it, just touches it along a segment.
func TestTouchedFaces(t *testing.T) {
	sides := []api.Plane{{1, 0, 0, 0}, {1, 0, 0, -4}, {0, 1, 0, 0}, {0, 1, 0, -1}, {0, 1, 0, -2}, {0, 1, 0, -3}, {0, 0, 1, 1}, {0, 0, 1, -1}, {1, 0, 1, -3}, {1, 0, -1, -1}}
	top := api.Plane{0, 0, 1, -1}
	for name, s := range map[string]set{
		"a prism on a slab": matching(t, append(sides, api.Plane{0, 0, 1, -2}), "+-+  -+-", "+- +- +++--"),
		"a gap in a slab":   matching(t, append(sides, api.Plane{0, 0, 1, 0}), "+-+-  +-", "+-  +-+-", "+-+  -+-+", "+-+  -+- -", "+-+  -+-  -"),
	} {
		made := s.solid(t)
		isRight(t, name, made)
		i := slices.IndexFunc(made.Faces, func(f api.Face) bool { return f.Plane == top })
		want := api.Face{Plane: top, Loops: [][]api.Point{flat(0, 0, 4, 0, 4, 3, 0, 3)}}
		same(t, "the upper side of "+name, made.Faces[i], api.OK, want)
		if corners, e := solid.Corners(made); e != api.OK || !slices.Contains(corners, api.Point{2, 1, 1, 1}) || !slices.Contains(corners, api.Point{2, 2, 1, 1}) {
			t.Errorf("%s: corners %v, error %d", name, corners, e)
		}
	}
}

// faces are the indices of some faces of a solid, and of all that have several holes.
func (r *rolls) faces(s api.Solid) []int {
	var l []int
	for i, f := range s.Faces {
		if len(f.Loops) > 2 || r.below(int64(len(s.Faces))) < 2 {
			l = append(l, i)
		}
	}
	return l
}

// A solid is right just if it is one that Make gives: all that is said of it by its faces is there, and nothing else.
func TestChanged(t *testing.T) {
	all := solids(t)
	changes := changes()
	count := map[string]int{}
	r := rolls(3)
	for _, name := range slices.Sorted(maps.Keys(all)) {
		s := all[name]
		for _, what := range slices.Sorted(maps.Keys(changes)) {
			for _, i := range r.faces(s) {
				changed := clone(s)
				changes[what](&changed, i)
				if reflect.DeepEqual(changed, s) {
					continue
				}
				count[what]++
				isWrong(t, name+" with "+what, changed)
			}
		}
	}
	for what := range changes {
		if count[what] < 2 {
			t.Errorf("%s: only %d times", what, count[what])
		}
	}
}

// overlaid are the faces of several solids together, in order.
func overlaid(l ...api.Solid) api.Solid {
	var faces []api.Face
	for _, s := range l {
		faces = append(faces, s.Faces...)
	}
	return inOrder(faces...)
}

// turnedOut is the surface of a solid with the other side inside.
func turnedOut(s api.Solid) api.Solid {
	s = clone(s)
	for i := range s.Faces {
		s.Faces[i].Plane = opposite(s.Faces[i].Plane)
		for _, loop := range s.Faces[i].Loops {
			slices.Reverse(loop)
		}
	}
	return inOrder(s.Faces...)
}

// Surfaces that are closed and of which each face alone is right.
func TestClosedSurfaces(t *testing.T) {
	one := box(t, 0, 0, 0, 3, 3, 3)
	oct, e := solid.Octahedron([3]int64{1, 1, 1}, 1)
	value(t, oct, e)
	star, e := solid.Octahedron([3]int64{1, 1, 1}, 2)
	value(t, star, e)
	for name, s := range map[string]api.Solid{
		"boxes that overlap":                      overlaid(one, box(t, 1, 1, 1, 4, 4, 4)),
		"a box in a box":                          overlaid(one, box(t, 1, 1, 1, 2, 2, 2)),
		"a box in a box that touches it":          overlaid(one, box(t, 1, 1, 0, 2, 2, 2)),
		"a box twice":                             overlaid(one, one),
		"bars that cross":                         overlaid(box(t, 0, 1, 1, 3, 2, 2), box(t, 1, 0, 1, 2, 3, 2)),
		"bars that go through each other":         overlaid(box(t, 0, 2, 2, 9, 3, 3), box(t, 4, 0, 1, 6, 5, 4)),
		"boxes that touch in a face":              overlaid(one, box(t, 3, 0, 0, 4, 3, 3)),
		"boxes that touch in a part of a face":    overlaid(one, box(t, 3, 1, 1, 4, 2, 2)),
		"boxes that touch in parts of faces":      overlaid(one, box(t, 3, 1, 1, 4, 4, 4)),
		"boxes that touch along parts of edges":   overlaid(one, box(t, 3, 3, 1, 4, 4, 2)),
		"an octahedron in a box":                  overlaid(one, oct),
		"an octahedron through a box":             overlaid(box(t, 0, 0, 0, 2, 2, 2), star),
		"an octahedron through an octahedron":     overlaid(oct, star),
		"a box turned inside out":                 turnedOut(one),
		"an octahedron turned inside out":         turnedOut(oct),
		"a ring turned inside out":                turnedOut(inOrder(ring().Faces...)),
		"a void without a solid":                  overlaid(turnedOut(one), box(t, 5, 5, 5, 6, 6, 6)),
		"a void that is greater than the solid":   overlaid(turnedOut(one), box(t, 1, 1, 1, 2, 2, 2)),
		"a void in a void":                        overlaid(box(t, 0, 0, 0, 9, 9, 9), turnedOut(box(t, 1, 1, 1, 8, 8, 8)), turnedOut(box(t, 2, 2, 2, 3, 3, 3))),
		"a void that goes through the surface":    overlaid(one, turnedOut(box(t, 1, 1, 1, 2, 2, 4))),
		"a solid and a void that is the same":     overlaid(one, turnedOut(one)),
		"a void that opens to a face":             overlaid(one, turnedOut(box(t, 1, 1, 1, 2, 2, 3))),
		"two voids that overlap":                  overlaid(box(t, 0, 0, 0, 9, 9, 9), turnedOut(box(t, 1, 1, 1, 3, 3, 3)), turnedOut(box(t, 2, 2, 2, 4, 4, 4))),
		"a flat box":                              {Faces: []api.Face{{Plane: api.Plane{0, 0, -1, 0}, Loops: [][]api.Point{points(0, 0, 0, 0, 1, 0, 1, 0, 0)}}, {Plane: api.Plane{0, 0, 1, 0}, Loops: [][]api.Point{points(0, 0, 0, 1, 0, 0, 0, 1, 0)}}}},
		"a face alone":                            {Faces: unit().Faces[:1]},
		"two solids in the order of their making": {Faces: slices.Concat(box(t, 5, 5, 5, 6, 6, 6).Faces, one.Faces)},
	} {
		isWrong(t, name, s)
	}
	for name, s := range map[string]api.Solid{
		"boxes apart":                            overlaid(one, box(t, 4, 4, 4, 5, 5, 5)),
		"boxes that touch in a point":            overlaid(one, box(t, 3, 3, 3, 5, 5, 5)),
		"boxes that touch along an edge":         overlaid(one, box(t, 3, 3, 0, 5, 5, 3)),
		"a void":                                 overlaid(box(t, -1, -1, -1, 4, 4, 4), turnedOut(one)),
		"a void with a box in it":                overlaid(box(t, -1, -1, -1, 4, 4, 4), turnedOut(one), box(t, 1, 1, 1, 2, 2, 2)),
		"a void that touches a face in a point":  overlaid(box(t, 0, 0, 0, 2, 2, 2), turnedOut(oct)),
		"an octahedron that stands on a box":     overlaid(box(t, -1, -1, -3, 3, 3, 0), oct),
		"octahedra that stand on each other":     overlaid(oct, octahedron(t, 1, 1, 3, 1)),
		"octahedra that touch in all directions": overlaid(oct, octahedron(t, 1, 1, 3, 1), octahedron(t, 1, 3, 1, 1), octahedron(t, -1, 1, 1, 1)),
	} {
		isRight(t, name, s)
	}
}

func octahedron(t *testing.T, x, y, z, r int64) api.Solid {
	t.Helper()
	s, e := solid.Octahedron([3]int64{x, y, z}, r)
	return value(t, s, e)
}

// Loops that come to one point several times, joined in the other way there, and faces that are one or several.
func TestLoopsJoinedOtherwise(t *testing.T) {
	top := api.Plane{0, 0, 1, -1}
	for _, c := range []struct {
		rows []string
		want [][][]api.Point // loops of the faces that are seen from above, other than the right ones
	}{
		{[]string{".#", "#."}, [][][]api.Point{{flat(0, 1, 1, 1, 1, 0, 2, 0, 2, 1, 1, 1, 1, 2, 0, 2)}}},
		{[]string{".#", "#."}, [][][]api.Point{{flat(0, 1, 1, 1, 1, 2, 0, 2), flat(1, 0, 2, 0, 2, 1, 1, 1)}}},
		{[]string{"#.", ".#"}, [][][]api.Point{{flat(0, 0, 1, 0, 1, 1, 2, 1, 2, 2, 1, 2, 1, 1, 0, 1)}}},
		{[]string{".###", "#.##", "####"}, [][][]api.Point{{flat(0, 1, 1, 1, 1, 0, 4, 0, 4, 3, 0, 3), flat(1, 1, 1, 2, 2, 2, 2, 1)}}},
		{[]string{"####", "#.##", "##.#", "####"}, [][][]api.Point{{flat(0, 0, 4, 0, 4, 4, 0, 4), flat(1, 1, 1, 2, 2, 2, 2, 1), flat(2, 2, 2, 3, 3, 3, 3, 2)}}},
		{[]string{"####", "#.##", "##.#", "####"}, [][][]api.Point{{flat(0, 0, 4, 0, 4, 4, 0, 4), flat(1, 1, 1, 2, 2, 2, 3, 2, 3, 3, 2, 3, 2, 2, 2, 1)}}},
		{[]string{"#.#"}, [][][]api.Point{{flat(0, 0, 1, 0, 1, 1, 0, 1), flat(2, 0, 3, 0, 3, 1, 2, 1)}}},
		{[]string{"###", "#.#", "###"}, [][][]api.Point{{flat(0, 0, 3, 0, 3, 3, 0, 3)}, {flat(1, 1, 1, 2, 2, 2, 2, 1)}}},
		{[]string{"###", "#.#", "###"}, [][][]api.Point{{flat(1, 1, 1, 2, 2, 2, 2, 1), flat(0, 0, 3, 0, 3, 3, 0, 3)}}},
		{[]string{"#####", "#...#", "#.#.#", "#...#", "#####"}, [][][]api.Point{{flat(0, 0, 5, 0, 5, 5, 0, 5), flat(1, 1, 1, 4, 4, 4, 4, 1), flat(2, 2, 3, 2, 3, 3, 2, 3)}}},
		{[]string{"#####", "#...#", "#.#.#", "#...#", "#####"}, [][][]api.Point{{flat(0, 0, 5, 0, 5, 5, 0, 5)}, {flat(1, 1, 1, 4, 4, 4, 4, 1), flat(2, 2, 3, 2, 3, 3, 2, 3)}}},
		{[]string{"##.", "#.#", "###"}, [][][]api.Point{{flat(0, 0, 2, 0, 2, 1, 3, 1, 3, 3, 0, 3), flat(1, 1, 1, 2, 2, 2, 2, 1)}}},
	} {
		s := blocks(c.rows).solid(t)
		isRight(t, c.rows[0], s)
		isTop := func(f api.Face) bool { return f.Plane == top }
		at := slices.IndexFunc(s.Faces, isTop)
		changed := slices.DeleteFunc(clone(s).Faces, isTop)
		for k, loops := range c.want {
			changed = slices.Insert(changed, at+k, api.Face{Plane: top, Loops: loops})
		}
		if reflect.DeepEqual(changed, s.Faces) {
			t.Fatalf("%v: nothing changed", c.rows)
		}
		isWrong(t, c.rows[0]+" joined otherwise", api.Solid{Faces: changed})
	}
}

// flat are points at z = 1, two coordinates each.
func flat(l ...int64) []api.Point {
	var all []api.Point
	for i := 0; i < len(l); i += 2 {
		all = append(all, api.Point{l[i], l[i+1], 1, 1})
	}
	return all
}

// A loop that comes to its first point several times may begin with any of these ways but is right with one of them only.
func TestFirstOfSeveral(t *testing.T) {
	s := pinched(t)
	isRight(t, "a pinched solid", s)
	n := 0
	for i, f := range s.Faces {
		for k, loop := range f.Loops {
			for at := 1; at < len(loop); at++ {
				if loop[at] == loop[0] {
					n++
					changed := clone(s)
					changed.Faces[i].Loops[k] = slices.Concat(loop[at:], loop[:at])
					isWrong(t, "another beginning", changed)
				}
			}
		}
	}
	if n == 0 {
		t.Errorf("no loop comes to its first point several times: %v", s)
	}
}

// pinched is a slab from which a wedge-like hole is cut that touches its outer side in its first corner.
func pinched(t *testing.T) api.Solid {
	t.Helper()
	planes := []api.Plane{{1, -2, 0, 0}, {2, -1, 0, 0}, {1, 1, 0, -3}, {1, 1, 0, 0}, {1, -1, 0, 0}, {1, 0, 0, -5}, {3, -1, 0, 0}, {1, -3, 0, 0}, {0, 0, 1, 0}, {0, 0, 1, -1}}
	// a corner at the origin, between the lines y = 3 x and 3 y = x, without what is between y = 2 x and 2 y = x, up to x + y = 3
	s := set{planes: planes}
	for _, name := range bounded(t, planes) {
		isCorner := name[6] == '+' && name[7] == '-' && name[8] == '+' && name[9] == '-' && name[5] == '-'
		isHole := name[0] == '-' && name[1] == '+' && name[2] == '-'
		if isCorner && !isHole {
			s.cells = append(s.cells, name)
		}
	}
	made, e := boundary.Make(s.planes, s.cells)
	return value(t, made, e)
}
