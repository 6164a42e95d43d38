package boundary_test

import (
	"cmp"
	"maps"
	"reflect"
	"slices"
	"testing"

	"spokeshave/api"
	"spokeshave/boundary"
)

// P7.3, for all sets and for those of one cell.
func TestClosed(t *testing.T) {
	for _, s := range sets(t) {
		isClosed(t, s)
	}
	for _, planes := range lists() {
		for _, name := range bounded(t, planes) {
			s := set{planes, []string{name}}
			isClosed(t, s)
			// A cell is convex.
			if n := s.numbers(t); n[0]-n[1]+n[3] != 2 || n[2] != n[3] {
				t.Errorf("%v, %s: %v", planes, name, n)
			}
		}
	}
}

// sameSolid checks that two sets have the same solid, or both too many faces.
func sameSolid(t *testing.T, what string, s, other set) {
	t.Helper()
	want, e := boundary.Make(s.planes, s.cells)
	got, f := boundary.Make(other.planes, other.cells)
	if e != f || !reflect.DeepEqual(got, want) {
		t.Errorf("%s: %v, error %d, want %v, error %d", what, got, f, want, e)
	}
	corners, e := boundary.Corners(s.planes, s.cells)
	points, f := boundary.Corners(other.planes, other.cells)
	same(t, what, points, f, value(t, corners, e))
	edges, e := boundary.Edges(s.planes, s.cells)
	pairs, f := boundary.Edges(other.planes, other.cells)
	same(t, what, pairs, f, value(t, edges, e))
}

// P7.4: with more planes, that divide the cells, and all parts of these listed.
func TestMorePlanes(t *testing.T) {
	r := rolls(4)
	all := sets(t)
	for _, name := range slices.Sorted(maps.Keys(all)) {
		s := all[name]
		more := set{planes: r.more(s.planes, 2, 3, 3)}
		for _, cell := range cellsOf(t, more.planes) {
			if slices.Contains(s.cells, cell[:len(s.planes)]) {
				more.cells = append(more.cells, cell)
			}
		}
		sameSolid(t, name+" and more planes", s, more)
		l, e := boundary.Needed(s.planes, s.cells)
		needed, f := boundary.Needed(more.planes, more.cells)
		same(t, name+" and more planes", needed, f, value(t, l, e))
		s.hasNeeded(t, name, l)
	}
}

// hasNeeded checks that the set has the same solid of the planes that it needs alone.
func (s set) hasNeeded(t *testing.T, name string, needed []int) {
	t.Helper()
	var other set
	for _, i := range needed {
		other.planes = append(other.planes, s.planes[i])
	}
	for _, cell := range s.cells {
		var signs []byte
		for _, i := range needed {
			signs = append(signs, cell[i])
		}
		if !slices.Contains(other.cells, string(signs)) {
			other.cells = append(other.cells, string(signs))
		}
	}
	sameSolid(t, name+" of the planes needed", s, other)
}

// P7.4: with the planes in another order, some of them turned, and the names with them.
func TestTurnedPlanes(t *testing.T) {
	r := rolls(5)
	all := sets(t)
	for _, name := range slices.Sorted(maps.Keys(all)) {
		s := all[name]
		order := make([]int, len(s.planes))
		for i := range order {
			k := int(r.below(int64(i + 1)))
			order[i], order[k] = order[k], i
		}
		other := set{cells: make([]string, len(s.cells))}
		for _, i := range order {
			p, signs := s.planes[i], "+-"
			if r.below(2) == 0 {
				p, signs = opposite(p), "-+"
			}
			other.planes = append(other.planes, p)
			for n, cell := range s.cells {
				sign := signs[:1]
				if cell[i] == '-' {
					sign = signs[1:]
				}
				other.cells[n] += sign
			}
		}
		sameSolid(t, name+" turned", s, other)
		for n, i := range order {
			for _, outer := range []bool{true, false} {
				want, e := boundary.Faces(s.planes, s.cells, i, outer)
				got, f := boundary.Faces(other.planes, other.cells, n, outer == (other.planes[n] == s.planes[i]))
				same(t, name+" turned", got, f, value(t, want, e))
			}
		}
	}
}

// P7.5: sets that have no common point. If bounded cells have one, they have a common corner.
func TestSetsApart(t *testing.T) {
	r := rolls(6)
	apart := 0
	all := lists()
	all["blocks"] = grid(6, 5, 3)
	for _, name := range slices.Sorted(maps.Keys(all)) {
		planes := all[name]
		corners := map[string][]api.Point{}
		for _, cell := range bounded(t, planes) {
			l, e := boundary.Corners(planes, []string{cell})
			corners[cell] = value(t, l, e)
		}
		cells := slices.Sorted(maps.Keys(corners))
		for _, percent := range []int64{10, 15, 20, 30, 50} {
			a, b := set{planes, r.some(cells, percent)}, set{planes: planes}
			taken := map[api.Point]bool{}
			for _, cell := range a.cells {
				for _, c := range corners[cell] {
					taken[c] = true
				}
			}
			for _, cell := range r.some(cells, 80) {
				if !slices.ContainsFunc(corners[cell], func(c api.Point) bool { return taken[c] }) {
					b.cells = append(b.cells, cell)
				}
			}
			if len(a.cells) > 0 && len(b.cells) > 0 {
				apart++
			}
			hasFacesOfBoth(t, name, a, b)
		}
	}
	if apart < 20 {
		t.Errorf("only %d times two sets", apart)
	}
}

func hasFacesOfBoth(t *testing.T, name string, a, b set) {
	t.Helper()
	both := set{a.planes, slices.Concat(a.cells, b.cells)}
	want := append(a.solid(t).Faces, b.solid(t).Faces...)
	slices.SortFunc(want, func(f, g api.Face) int {
		return cmp.Or(slices.Compare(f.Plane[:], g.Plane[:]), listOrder(f.Loops[0], g.Loops[0]))
	})
	got := both.solid(t).Faces
	if len(got)+len(want) > 0 && !reflect.DeepEqual(got, want) {
		t.Errorf("%s: %v and %v have the faces %v, want %v", name, a.cells, b.cells, got, want)
	}
}

// Names may be in any order, and all calls give the same again.
func TestTheSameAgain(t *testing.T) {
	r := rolls(7)
	all := sets(t)
	for _, name := range slices.Sorted(maps.Keys(all)) {
		s := all[name]
		for range 3 {
			sameSolid(t, name+" again", s, set{s.planes, r.shuffled(s.cells)})
		}
		pieces, e := boundary.Boundary(s.planes, s.cells)
		again, f := boundary.Boundary(s.planes, r.shuffled(s.cells))
		same(t, name+" again", again, f, value(t, pieces, e))
	}
}
