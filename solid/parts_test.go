package solid_test

import (
	"maps"
	"reflect"
	"slices"
	"testing"

	"spokeshave/api"
	"spokeshave/boundary"
	"spokeshave/point"
	"spokeshave/ratio"
	"spokeshave/solid"
)

// planesOf are the planes on which a solid has faces, by their numbers.
func planesOf(s api.Solid) []api.Plane {
	var l []api.Plane
	for _, f := range s.Faces {
		p := f.Plane
		if slices.Compare(p[:], []int64{0, 0, 0, 0}) < 0 {
			p = opposite(p)
		}
		l = append(l, p)
	}
	slices.SortFunc(l, func(p, q api.Plane) int { return slices.Compare(p[:], q[:]) })
	return slices.Compact(l)
}

func TestPlanes(t *testing.T) {
	l, e := solid.Planes(unit())
	same(t, "Planes of a box", l, e, []api.Plane{{0, 0, 1, -1}, {0, 0, 1, 0}, {0, 1, 0, -1}, {0, 1, 0, 0}, {1, 0, 0, -1}, {1, 0, 0, 0}})
	l, e = solid.Planes(half())
	same(t, "Planes of a tetrahedron", l, e, []api.Plane{{0, 0, 1, 0}, {0, 1, 0, 0}, {1, 0, 0, 0}, {2, 3, 1, -1}})
	l, e = solid.Planes(figures()["parts that touch along an edge"].solid(t))
	same(t, "Planes with faces on both sides", l, e, []api.Plane{{0, 0, 1, -1}, {0, 0, 1, 0}, {0, 1, 0, -2}, {0, 1, 0, -1}, {0, 1, 0, 0}, {1, 0, 0, -2}, {1, 0, 0, -1}, {1, 0, 0, 0}})
	for name, s := range solids(t) {
		l, e := solid.Planes(s)
		same(t, "Planes of "+name, l, e, planesOf(s))
	}
}

func TestCornersAndEdges(t *testing.T) {
	corners, e := solid.Corners(unit())
	same(t, "Corners of a box", corners, e, points(0, 0, 0, 0, 0, 1, 0, 1, 0, 0, 1, 1, 1, 0, 0, 1, 0, 1, 1, 1, 0, 1, 1, 1))
	corners, e = solid.Corners(half())
	same(t, "Corners of a tetrahedron", corners, e, []api.Point{{0, 0, 0, 1}, {0, 0, 1, 1}, {0, 1, 0, 3}, {1, 0, 0, 2}})
	edges, e := solid.Edges(half())
	var want [][2]api.Point
	for _, a := range corners {
		for _, b := range corners {
			if a != b {
				want = append(want, [2]api.Point{a, b})
			}
		}
	}
	same(t, "Edges of a tetrahedron", edges, e, want)
	for name, c := range sets(t) {
		s := c.solid(t)
		want, e := boundary.Corners(c.planes, c.cells)
		value(t, want, e)
		corners, e := solid.Corners(s)
		same(t, "Corners of "+name, corners, e, want)
		all, e := boundary.Edges(c.planes, c.cells)
		value(t, all, e)
		edges, e := solid.Edges(s)
		same(t, "Edges of "+name, edges, e, all)
	}
	// An edge that is there twice, and its opposite one as well.
	edges, e = solid.Edges(figures()["parts that touch along an edge"].solid(t))
	low, high := points(1, 1, 0)[0], points(1, 1, 1)[0]
	i, k := slices.Index(value(t, edges, e), [2]api.Point{low, high}), slices.Index(edges, [2]api.Point{high, low})
	if len(edges) != 48 || i < 0 || k < 0 || edges[i+1] != edges[i] || edges[k+1] != edges[k] {
		t.Errorf("Edges of two cubes: %v", edges)
	}
}

// order of two ratios.
func ratioOrder(t *testing.T, a, b string) int {
	t.Helper()
	n, e := ratio.Cmp(a, b)
	return value(t, n, e)
}

func TestBounds(t *testing.T) {
	for _, c := range []struct {
		s         api.Solid
		low, high [3]string
	}{
		{unit(), [3]string{"0", "0", "0"}, [3]string{"1", "1", "1"}},
		{half(), [3]string{"0", "0", "0"}, [3]string{"1/2", "1/3", "1"}},
		{ring(), [3]string{"0", "0", "0"}, [3]string{"3", "3", "1"}},
		{box(t, -10000, 9, -7, -9999, 10, 7), [3]string{"-10000", "9", "-7"}, [3]string{"-9999", "10", "7"}},
		{octahedron(t, 1, -2, 3, 9), [3]string{"-8", "-11", "-6"}, [3]string{"10", "7", "12"}},
	} {
		low, high, e := solid.Bounds(inOrder(c.s.Faces...))
		same(t, "Bounds", [2][3]string{low, high}, e, [2][3]string{c.low, c.high})
	}
	tetrahedron, e := solid.Tetrahedron([4]api.Point{{-1, 3, -5, 7}, {1, 2, 0, 5}, {3, -2, 1, 2}, {0, 1, -4, 3}})
	low, high, f := solid.Bounds(value(t, tetrahedron, e))
	same(t, "Bounds", [2][3]string{low, high}, f, [2][3]string{{"-1/7", "-1", "-4/3"}, {"3/2", "3/7", "1/2"}})
	for name, s := range solids(t) {
		low, high, e := solid.Bounds(s)
		if len(s.Faces) == 0 {
			if e != api.ErrNone {
				t.Errorf("Bounds of %s: error %d", name, e)
			}
			continue
		}
		value(t, low, e)
		var ends [2][3]bool
		for _, f := range s.Faces {
			for _, q := range f.Loops[0] {
				c, e := point.Coordinates(q)
				value(t, c, e)
				for axis := range c {
					below, above := ratioOrder(t, low[axis], c[axis]), ratioOrder(t, c[axis], high[axis])
					if below > 0 || above > 0 {
						t.Errorf("%s: %v is not within %v and %v", name, q, low, high)
					}
					ends[0][axis] = ends[0][axis] || low[axis] == c[axis]
					ends[1][axis] = ends[1][axis] || high[axis] == c[axis]
				}
			}
		}
		if ends != [2][3]bool{{true, true, true}, {true, true, true}} {
			t.Errorf("%s: no corner has %v or %v", name, low, high)
		}
	}
}

func TestEqual(t *testing.T) {
	all := solids(t)
	names := slices.Sorted(maps.Keys(all))
	for i, name := range names {
		s := all[name]
		equal, e := solid.Equal(s, clone(s))
		same(t, "Equal of "+name, equal, e, true)
		for _, k := range []int{0, (i + 1) % len(names), (5*i + 7) % len(names)} {
			other := all[names[k]]
			equal, e := solid.Equal(s, other)
			same(t, "Equal of "+name+" and "+names[k], equal, e, reflect.DeepEqual(s, other) || len(s.Faces)+len(other.Faces) == 0)
		}
	}
	equal, e := solid.Equal(api.Solid{}, api.Solid{Faces: []api.Face{}})
	same(t, "Equal of empty solids", equal, e, true)
	equal, e = solid.Equal(unit(), box(t, 0, 0, 0, 1, 1, 1))
	same(t, "Equal of boxes", equal, e, true)
	equal, e = solid.Equal(unit(), box(t, 0, 0, 0, 1, 1, 2))
	same(t, "Equal of boxes", equal, e, false)
	equal, e = solid.Equal(inOrder(ring().Faces...), box(t, 0, 0, 0, 3, 3, 1))
	same(t, "Equal of a ring and a box", equal, e, false)
}

// The empty solid in every function.
func TestEmpty(t *testing.T) {
	for _, s := range []api.Solid{{}, {Faces: []api.Face{}}, {Faces: unit().Faces[:0]}} {
		isRight(t, "the empty solid", s)
		planes, e := solid.Planes(s)
		fails(t, "Planes", planes, e, api.OK)
		corners, e := solid.Corners(s)
		fails(t, "Corners", corners, e, api.OK)
		edges, e := solid.Edges(s)
		fails(t, "Edges", edges, e, api.OK)
		hasNoBounds(t, s, api.ErrNone)
		equal, e := solid.Equal(s, unit())
		same(t, "Equal", equal, e, false)
		equal, e = solid.Equal(unit(), s)
		same(t, "Equal", equal, e, false)
		equal, e = solid.Equal(s, s)
		same(t, "Equal", equal, e, true)
		for _, l := range [][]api.Plane{nil, {}, cube(), {{1, 2, 3, 4}}, general(40)} {
			cells, e := solid.Cells(s, l)
			fails(t, "Cells", cells, e, api.OK)
		}
	}
}
