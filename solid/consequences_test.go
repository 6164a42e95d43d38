package solid_test

import (
	"maps"
	"reflect"
	"slices"
	"testing"

	"spokeshave/api"
	"spokeshave/boundary"
	"spokeshave/point"
	"spokeshave/solid"
)

// P8.5: Make of Planes and Cells is the solid again.
func TestThereAndBack(t *testing.T) {
	for name, s := range solids(t) {
		planes, e := solid.Planes(s)
		value(t, planes, e)
		cells, e := solid.Cells(s, planes)
		again, f := boundary.Make(planes, value(t, cells, e))
		if f != api.OK || len(again.Faces)+len(s.Faces) > 0 && !reflect.DeepEqual(again, s) {
			t.Errorf("%s: %v, error %d, want %v", name, again, f, s)
		}
		if !slices.IsSorted(cells) {
			t.Errorf("%s: cells are not in order: %v", name, cells)
		}
	}
}

// P8.5: with one corner moved, one loop turned, or one face left out, a solid is not right.
func TestOneThingChanged(t *testing.T) {
	r := rolls(8)
	all := solids(t)
	for _, name := range slices.Sorted(maps.Keys(all)) {
		s := all[name]
		if len(s.Faces) == 0 {
			continue
		}
		for range 3 {
			i := int(r.below(int64(len(s.Faces))))
			changed := clone(s)
			changed.Faces = slices.Delete(changed.Faces, i, i+1)
			isWrong(t, name+" without a face", changed)
			k := int(r.below(int64(len(s.Faces[i].Loops))))
			loop := s.Faces[i].Loops[k]
			changed = clone(s)
			slices.Reverse(changed.Faces[i].Loops[k][1:])
			isWrong(t, name+" with a loop turned", changed)
			r.moveCorner(t, name, s, loop[r.below(int64(len(loop)))])
		}
	}
}

// moveCorner moves a corner in all loops, to other corners, and a little.
func (r *rolls) moveCorner(t *testing.T, name string, s api.Solid, q api.Point) {
	t.Helper()
	corners, e := solid.Corners(s)
	other := value(t, corners, e)[r.below(int64(len(corners)))]
	places := []api.Point{other}
	if m, e := point.Middle(q, other); e == api.OK {
		places = append(places, m)
	}
	for _, v := range [][3]int64{{1, 0, 0}, {0, 0, -1}, {5, 7, 11}} {
		if m, e := point.Shift(q, v); e == api.OK {
			places = append(places, m)
		}
	}
	for _, to := range places {
		if to == q {
			continue
		}
		changed := clone(s)
		everywhere(&changed, func(l []api.Point) []api.Point {
			for k := range l {
				if l[k] == q {
					l[k] = to
				}
			}
			return l
		})
		isWrong(t, name+" with a corner moved", changed)
		isWrong(t, name+" with a corner moved, in order", inOrder(changed.Faces...))
	}
}

// convex are simple solids of all kinds, also at the ends of their ranges.
func convex(t *testing.T) []api.Solid {
	t.Helper()
	l := []api.Solid{unit(), half(), box(t, -10000, -10000, -10000, 10000, 10000, 10000), octahedron(t, 0, 0, 0, 1), octahedron(t, 10000, -10000, 10000, 10000)}
	for corner := range 8 {
		s, e := solid.Wedge([3]int64{-3, 4, 5}, [3]int64{7, 9, 6}, corner)
		l = append(l, value(t, s, e))
	}
	for n := range 12 {
		s, e := solid.Staircase(n + 1)
		l = append(l, value(t, s, e))
	}
	s, e := solid.Tetrahedron([4]api.Point{{1, 2, 3, 7}, {-1, 2, 0, 5}, {3, -2, 1, 2}, {0, 1, -4, 3}})
	return append(l, value(t, s, e))
}

// P8.6.
func TestEuler(t *testing.T) {
	for _, s := range convex(t) {
		if n := counts(t, s); n[1]%2 != 0 || n[0]-n[1]/2+n[2] != 2 {
			t.Errorf("%d corners, %d edges, %d faces: %v", n[0], n[1], n[2], s)
		}
	}
}

// W3: each edge is there as often as its opposite one.
func TestClosed(t *testing.T) {
	all := slices.Collect(maps.Values(solids(t)))
	for _, s := range append(all, convex(t)...) {
		edges, e := solid.Edges(s)
		count := map[[2]api.Point]int{}
		for _, edge := range value(t, edges, e) {
			count[edge]++
			count[[2]api.Point{edge[1], edge[0]}]--
		}
		for edge, n := range count {
			if n != 0 {
				t.Errorf("%v is there %d times more often than its opposite one", edge, n)
			}
		}
		inOrder := func(a, b [2]api.Point) int {
			return slices.CompareFunc(a[:], b[:], order)
		}
		if !slices.IsSortedFunc(edges, inOrder) {
			t.Errorf("edges are not in order: %v", edges)
		}
	}
}

// W2: what is made in two ways is equal data.
func TestOneForm(t *testing.T) {
	r := rolls(9)
	all := sets(t)
	for _, name := range slices.Sorted(maps.Keys(all)) {
		c := all[name]
		s := c.solid(t)
		var planes []api.Plane
		for _, p := range shuffled(&r, c.planes) {
			if r.below(2) == 0 {
				p = opposite(p)
			}
			planes = append(planes, p)
		}
		cells, e := solid.Cells(s, planes)
		again, f := boundary.Make(planes, shuffled(&r, value(t, cells, e)))
		equal, g := solid.Equal(value(t, again, f), s)
		same(t, name, equal, g, true)
	}
	cut, e := boundary.Make(append(cube(), api.Plane{1, 1, 1, -1}), []string{"-------"})
	value(t, cut, e)
	made, e := solid.Wedge([3]int64{}, [3]int64{1, 1, 1}, 0)
	equal, f := solid.Equal(cut, value(t, made, e))
	same(t, "a wedge", equal, f, true)
	made, e = solid.Tetrahedron([4]api.Point(points(0, 0, 1, 0, 1, 0, 1, 0, 0, 0, 0, 0)))
	equal, f = solid.Equal(cut, value(t, made, e))
	same(t, "a tetrahedron", equal, f, true)
}

// All calls give the same again.
func TestTheSameAgain(t *testing.T) {
	s := stairs(4)
	planes := append(grid(5, 5, 2), api.Plane{1, 1, 1, -3})
	want := results(s, unit(), planes)
	for range 20 {
		if got := results(s, unit(), planes); !reflect.DeepEqual(got, want) {
			t.Errorf("%v, want %v", got, want)
		}
	}
}
