package solid_test

import (
	"maps"
	"slices"
	"testing"

	"spokeshave/api"
	"spokeshave/solid"
)

func TestCells(t *testing.T) {
	for _, c := range []struct {
		s      api.Solid
		planes []api.Plane
		want   []string
	}{
		{unit(), cube(), []string{"------"}},
		{unit(), grid(2, 2, 2), []string{"+-+-+-"}},
		{unit(), append(cube(), api.Plane{2, 0, 0, -1}), []string{"------+", "-------"}},
		{unit(), append([]api.Plane{{1, -1, 0, 0}, {-1, 1, 0, -5}}, cube()...), []string{"+-------", "--------"}},
		{unit(), grid(3, 2, 2), []string{"+--+-+-"}},
		{box(t, 0, 0, 0, 2, 1, 1), grid(3, 2, 2), []string{"++-+-+-", "+--+-+-"}},
		{half(), []api.Plane{{-2, -3, -1, 1}, {0, 0, 1, 0}, {0, -1, 0, 0}, {1, 0, 0, 0}}, []string{"++-+"}},
		{inOrder(ring().Faces...), []api.Plane{{1, 0, 0, 0}, {-1, 0, 0, 1}, {1, 0, 0, -2}, {1, 0, 0, -3}, {0, 1, 0, 0}, {0, 1, 0, -1}, {0, 1, 0, -2}, {0, 1, 0, -3}, {0, 0, 1, 0}, {0, 0, 1, -1}},
			[]string{"++--+++-+-", "++--++--+-", "++--+---+-", "+-+-+++-+-", "+-+-++--+-", "+-+-+---+-", "+---+++-+-", "+---+---+-"}},
	} {
		cells, e := solid.Cells(c.s, c.planes)
		same(t, "Cells", cells, e, c.want)
	}
}

// The cells of which a solid is made are those that lie in it, for planes that it has not got, too.
func TestCellsOfSets(t *testing.T) {
	for name, c := range sets(t) {
		cells, e := solid.Cells(c.solid(t), c.planes)
		same(t, "Cells of "+name, cells, e, slices.Sorted(slices.Values(c.cells)))
	}
}

// With more planes, in another order, some of them turned.
func TestCellsOfMorePlanes(t *testing.T) {
	r := rolls(6)
	all := sets(t)
	for _, name := range slices.Sorted(maps.Keys(all)) {
		c := all[name]
		planes := r.more(c.planes, min(3, 40-len(c.planes)), 3, 3)
		places := make([]int, len(planes))
		for i := range places {
			places[i] = i
		}
		places = shuffled(&r, places)
		var mixed []api.Plane
		var turned []bool
		for _, i := range places {
			p, isTurned := planes[i], r.below(2) == 0
			if isTurned {
				p = opposite(p)
			}
			mixed, turned = append(mixed, p), append(turned, isTurned)
		}
		var want []string
		for _, cell := range cellsOf(t, mixed) {
			signs := make([]byte, len(planes))
			for n, i := range places {
				signs[i] = cell[n]
				if turned[n] {
					signs[i] ^= '+' ^ '-'
				}
			}
			if slices.Contains(c.cells, string(signs[:len(c.planes)])) {
				want = append(want, cell)
			}
		}
		cells, e := solid.Cells(c.solid(t), mixed)
		same(t, "Cells of "+name, cells, e, want)
	}
}

func TestCellsOfMaxPlanes(t *testing.T) {
	planes := general(40)
	var convex []string
	// The signs of a point are those of a cubic with the coefficients 1, z, y, x at numbers in a row. A bounded cell has those with all three zeros between them.
	for _, name := range cellsOf(t, planes) {
		changes := 0
		for i := range len(name) - 1 {
			if name[i] != name[i+1] {
				changes++
			}
		}
		if changes == 3 {
			convex = append(convex, name)
		}
	}
	s := set{planes, convex}.solid(t)
	l, e := solid.Planes(s)
	if len(value(t, l, e)) != 40 {
		t.Errorf("%d planes", len(l))
	}
	cells, e := solid.Cells(s, planes)
	same(t, "Cells of all bounded cells", cells, e, convex)
	small := set{planes[:4], bounded(t, planes[:4])}
	cells, e = solid.Cells(small.solid(t), planes)
	var want []string
	for _, name := range cellsOf(t, planes) {
		if slices.Contains(small.cells, name[:4]) {
			want = append(want, name)
		}
	}
	same(t, "Cells of a tetrahedron", cells, e, want)
}
