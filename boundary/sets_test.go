package boundary_test

import (
	"slices"
	"testing"

	"spokeshave/api"
	"spokeshave/arrange"
	"spokeshave/boundary"
)

func TestSets(t *testing.T) {
	for _, c := range []struct {
		planes []api.Plane
		cells  []string
		needed []int
		others []string
		pieces []string
	}{
		{nil, nil, nil, []string{""}, nil},
		{nil, []string{""}, nil, nil, nil},
		{[]api.Plane{{1, 2, 3, 4}}, nil, nil, []string{"+", "-"}, nil},
		{[]api.Plane{{1, 2, 3, 4}}, []string{"-"}, []int{0}, []string{"+"}, []string{"0"}},
		{[]api.Plane{{1, 2, 3, 4}}, []string{"+"}, []int{0}, []string{"-"}, []string{"0"}},
		{[]api.Plane{{1, 2, 3, 4}}, []string{"-", "+"}, nil, nil, nil},
		{[]api.Plane{{1, 0, 0, 0}, {1, 0, 0, -1}}, []string{"+-"}, []int{0, 1}, []string{"++", "--"}, []string{"0-", "+0"}},
		{[]api.Plane{{1, 0, 0, 0}, {1, 0, 0, -1}}, []string{"+-", "++"}, []int{0}, []string{"--"}, []string{"0-"}},
		{[]api.Plane{{1, 0, 0, 0}, {1, 0, 0, -1}}, []string{"--", "++"}, []int{0, 1}, []string{"+-"}, []string{"0-", "+0"}},
		{[]api.Plane{{1, 0, 0, 0}, {0, 1, 0, 0}}, []string{"-+", "+-"}, []int{0, 1}, []string{"++", "--"}, []string{"0+", "0-", "+0", "-0"}},
		{[]api.Plane{{1, 0, 0, 0}, {0, 1, 0, 0}}, []string{"-+", "--"}, []int{0}, []string{"++", "+-"}, []string{"0+", "0-"}},
		{[]api.Plane{{1, 0, 0, 0}, {0, 1, 0, 0}, {0, 0, 1, 0}}, []string{"+++"}, []int{0, 1, 2}, []string{"++-", "+-+", "+--", "-++", "-+-", "--+", "---"}, []string{"0++", "+0+", "++0"}},
		{[]api.Plane{{1, 0, 0, 0}, {0, 1, 0, 0}, {1, 1, 0, 0}}, []string{"+-+", "---"}, []int{0, 1, 2}, []string{"+++", "+--", "-++", "-+-"}, []string{"0--", "+0+", "-0-", "+-0"}},
		{cube(), []string{"------"}, []int{0, 1, 2, 3, 4, 5}, nil, []string{"0-----", "-0----", "--0---", "---0--", "----0-", "-----0"}},
	} {
		needed, e := boundary.Needed(c.planes, c.cells)
		same(t, "Needed", needed, e, c.needed)
		pieces, e := boundary.Boundary(c.planes, c.cells)
		same(t, "Boundary", pieces, e, c.pieces)
		others, e := boundary.Others(c.planes, c.cells)
		if len(c.planes) == 6 {
			c.others = slices.DeleteFunc(cellsOf(t, c.planes), func(s string) bool { return s == "------" })
		}
		same(t, "Others", others, e, c.others)
	}
}

// Any cells of any planes, bounded or not: the pieces by package arrange, and the cells on both of their sides.
func TestSetsOfAllKinds(t *testing.T) {
	all := lists()
	all["parallel ones"] = parallels(8)
	all["a prism"] = prism(6)
	all["a pencil"] = []api.Plane{{1, 0, 0, 0}, {0, 1, 0, 0}, {1, 1, 0, 0}, {-1, 1, 0, 0}, {2, 1, 0, 0}}
	all["axes"] = []api.Plane{{1, 0, 0, 0}, {0, 1, 0, 0}, {0, 0, 1, 0}}
	all["many in general"] = general(20)
	r := rolls(3)
	for name, planes := range all {
		cells := cellsOf(t, planes)
		for _, percent := range []int64{0, 3, 30, 50, 80, 97, 100} {
			some := r.shuffled(r.some(cells, percent))
			isListed := map[string]bool{}
			for _, s := range some {
				isListed[s] = true
			}
			var others, pieces []string
			var needed []int
			for _, s := range cells {
				if !isListed[s] {
					others = append(others, s)
				}
			}
			for i := range planes {
				l, e := arrange.Pieces(planes, i)
				n := len(pieces)
				for _, s := range value(t, l, e) {
					if isListed[with(s, i, "-")] != isListed[with(s, i, "+")] {
						pieces = append(pieces, s)
					}
				}
				if len(pieces) > n {
					needed = append(needed, i)
				}
			}
			gotOthers, e := boundary.Others(planes, some)
			same(t, "Others of "+name, gotOthers, e, others)
			gotPieces, e := boundary.Boundary(planes, some)
			same(t, "Boundary of "+name, gotPieces, e, pieces)
			gotNeeded, e := boundary.Needed(planes, some)
			same(t, "Needed of "+name, gotNeeded, e, needed)
			// What is not listed ends where that which is does.
			gotPieces, e = boundary.Boundary(planes, others)
			same(t, "Boundary of what is left of "+name, gotPieces, e, pieces)
		}
	}
}

// MaxPlanes planes, and more names than a half of 20000.
func TestSetsOfMaxPlanes(t *testing.T) {
	for _, planes := range [][]api.Plane{general(40), grid(14, 13, 13), parallels(40), prism(40)} {
		cells := cellsOf(t, planes)
		others, e := boundary.Others(planes, cells)
		same(t, "Others of all", others, e, []string(nil))
		others, e = boundary.Others(planes, nil)
		same(t, "Others of none", others, e, cells)
		others, e = boundary.Others(planes, cells[1:])
		same(t, "Others of all but one", others, e, cells[:1])
		pieces, e := boundary.Boundary(planes, cells)
		same(t, "Boundary of all", pieces, e, []string(nil))
		near, e := arrange.Neighbours(planes, cells[len(cells)/2])
		value(t, near, e)
		needed, e := boundary.Needed(planes, slices.Delete(slices.Clone(cells), len(cells)/2, len(cells)/2+1))
		same(t, "Needed of all but one", needed, e, near)
		needed, e = boundary.Needed(planes, cells[len(cells)/2:len(cells)/2+1])
		same(t, "Needed of one", needed, e, near)
	}
}
