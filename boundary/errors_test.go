package boundary_test

import (
	"slices"
	"strings"
	"testing"

	"spokeshave/api"
	"spokeshave/boundary"
)

// indices are some of which none, in a list of n planes, is one of a plane.
func indices(n int) []int {
	return []int{-1, n, n + 1, 41, 64, 1 << 32, least, greatest}
}

// allFail checks that each function returns the error want: Faces also with what is no index.
func allFail(t *testing.T, planes []api.Plane, cells []string, want api.Errno) {
	t.Helper()
	opened(t, planes, cells, want)
	for _, i := range indices(len(planes)) {
		faces, e := boundary.Faces(planes, cells, i, i%2 == 0)
		fails(t, "Faces of no plane", faces, e, want)
	}
	needed, e := boundary.Needed(planes, cells)
	fails(t, "Needed", needed, e, want)
	others, e := boundary.Others(planes, cells)
	fails(t, "Others", others, e, want)
	pieces, e := boundary.Boundary(planes, cells)
	fails(t, "Boundary", pieces, e, want)
}

// opened checks that the functions that want bounded cells return the error want.
func opened(t *testing.T, planes []api.Plane, cells []string, want api.Errno) {
	t.Helper()
	s, e := boundary.Make(planes, cells)
	hasNoFaces(t, "Make", s, e, want)
	corners, e := boundary.Corners(planes, cells)
	fails(t, "Corners", corners, e, want)
	edges, e := boundary.Edges(planes, cells)
	fails(t, "Edges", edges, e, want)
	for i := range planes {
		for _, outer := range []bool{false, true} {
			faces, e := boundary.Faces(planes, cells, i, outer)
			fails(t, "Faces", faces, e, want)
		}
	}
}

// longLists are lists of too many planes.
func longLists() [][]api.Plane {
	return [][]api.Plane{general(41), parallels(41), slices.Repeat(cube(), 7), append(general(40), general(1)...), slices.Repeat(general(40), 30)}
}

// coincident are lists with two planes that have the same points.
func coincident() [][]api.Plane {
	p := api.Plane{3, -2, 0, 5}
	return [][]api.Plane{{p, p}, {p, opposite(p)}, {p, {1, 0, 0, 0}, opposite(p)}, append(cube(), cube()[5]), append(general(39), opposite(general(39)[0]))}
}

// manyNames are lists of names, also such that are none, that are not too long.
func manyNames() [][]string {
	return [][]string{nil, {""}, {"------"}, {"------", "------"}, {"x"}, {strings.Repeat("-", 40)}, slices.Repeat([]string{"------"}, 20000)}
}

// A wrong plane comes before all other errors, wherever it is in the list.
func TestWrongPlanes(t *testing.T) {
	lists := slices.Concat([][]api.Plane{nil, {{1, 0, 0, 0}}, cube(), general(39)}, longLists()[:2], coincident())
	for k, p := range wrongPlanes() {
		for n, l := range lists {
			names := append(manyNames(), slices.Repeat([]string{"------"}, 20001))
			at := []int{0, len(l) / 2, len(l)}[(k+n)%3]
			allFail(t, slices.Insert(slices.Clone(l), at, p), names[(2*k+n)%len(names)], api.ErrPlane)
		}
	}
}

// Lists that are too long come before wrong names and coincident planes.
func TestLongLists(t *testing.T) {
	for _, l := range longLists() {
		for _, names := range manyNames() {
			allFail(t, l, names, api.ErrLarge)
		}
	}
	for _, l := range append(coincident(), nil, cube(), general(40), general(41)) {
		for _, name := range []string{"", "------", "x", strings.Repeat("-", 40)} {
			allFail(t, l, slices.Repeat([]string{name}, 20001), api.ErrLarge)
			allFail(t, l, slices.Repeat([]string{name}, 30000), api.ErrLarge)
		}
	}
}

func TestCoincidentPlanes(t *testing.T) {
	for _, l := range coincident() {
		for _, names := range append(manyNames(), []string{strings.Repeat("-", len(l))}, []string{strings.Repeat("+", len(l))}) {
			allFail(t, l, names, api.ErrCells)
		}
	}
}

// Names that are none, alone, before and after names that are, and with cells that are not bounded.
func TestWrongNames(t *testing.T) {
	for _, wrong := range []string{
		"", "-", "-----", "-------", "------ ", " ------", "-----0", "0-----", "------0", "-----\x00", "-----–", "−-----", "......",
		"++++++", "++----", "--++--", "----++", "+-+-++", strings.Repeat("-", 40), strings.Repeat("-", 100000),
	} {
		for _, names := range [][]string{{wrong}, {"------", wrong}, {wrong, "------"}, {"+-----", wrong}, {wrong, "-+----"}, {wrong, wrong}} {
			allFail(t, cube(), names, api.ErrCells)
		}
	}
	for _, wrong := range []string{"+", "-", "0", " "} {
		allFail(t, nil, []string{wrong}, api.ErrCells)
		allFail(t, nil, []string{"", wrong}, api.ErrCells)
	}
	allFail(t, []api.Plane{{1, 0, 0, 0}, {1, 0, 0, -1}}, []string{"-+"}, api.ErrCells)
}

// A name that is there twice: next to each other, far from each other, of a cell that is bounded or not.
func TestNamesTwice(t *testing.T) {
	for _, names := range [][]string{{"------", "------"}, {"+-----", "+-----"}, {"------", "+-----", "------"}, {"------", "+-----", "-+----", "+-----"}} {
		allFail(t, cube(), names, api.ErrCells)
	}
	allFail(t, nil, []string{"", ""}, api.ErrCells)
	all := cellsOf(t, cube())
	allFail(t, cube(), append(slices.Clone(all), all[0]), api.ErrCells)
	allFail(t, cube(), slices.Concat(all, all), api.ErrCells)
	many := cellsOf(t, general(40))
	for _, names := range [][]string{append(slices.Clone(many), many[5000]), slices.Concat(many, many)[:20000]} {
		needed, e := boundary.Needed(general(40), names)
		fails(t, "Needed of many names", needed, e, api.ErrCells)
		solid, e := boundary.Make(general(40), names)
		hasNoFaces(t, "Make of many names", solid, e, api.ErrCells)
	}
	allFail(t, general(40), slices.Concat(many, many)[:20001], api.ErrLarge)
}

// What is no index comes before cells that are not bounded.
func TestIndicesOfNoPlanes(t *testing.T) {
	for _, s := range []set{
		{nil, nil}, {nil, []string{""}}, {cube(), nil}, {cube(), []string{"------"}}, {cube(), []string{"+-----"}}, {cube(), cellsOf(t, cube())},
		{parallels(40), []string{cellsOf(t, parallels(40))[3]}}, {general(40), bounded(t, general(7))[:0]},
	} {
		for _, i := range indices(len(s.planes)) {
			for _, outer := range []bool{false, true} {
				faces, e := boundary.Faces(s.planes, s.cells, i, outer)
				fails(t, "Faces of no plane", faces, e, api.ErrArg)
			}
		}
	}
}

// Each cell that is not bounded, alone and with bounded ones, as the first and as the last name.
func TestOpenCells(t *testing.T) {
	all := lists()
	all["none"] = nil
	all["one"] = []api.Plane{{2, -3, 5, 7}}
	all["parallel ones"] = parallels(5)
	all["a prism"] = prism(5)
	all["axes"] = []api.Plane{{1, 0, 0, 0}, {0, 1, 0, 0}, {0, 0, 1, 0}}
	all["a prism cut off"] = append(prism(5), api.Plane{1, 1, 1, 0})
	all["the greatest"] = []api.Plane{{1000, 999, 998, 0}, {-1000, -999, -997, 0}, {0, 1, 0, -1000000}, {-999, -1000, 0, 1}}
	for _, planes := range all {
		closed, n := bounded(t, planes), 9
		for _, s := range cellsOf(t, planes) {
			if slices.Contains(closed, s) {
				continue
			}
			solid, e := boundary.Make(planes, []string{s})
			hasNoFaces(t, "Make of a cell that is not bounded", solid, e, api.ErrOpen)
			n++
			if n%10 != 0 {
				continue
			}
			opened(t, planes, []string{s}, api.ErrOpen)
			opened(t, planes, append(slices.Clone(closed), s), api.ErrOpen)
			opened(t, planes, append([]string{s}, closed...), api.ErrOpen)
		}
		for _, s := range closed {
			solid, e := boundary.Make(planes, []string{s})
			if len(value(t, solid, e).Faces) < 4 {
				t.Errorf("the bounded cell %s of %v: %v", s, planes, solid)
			}
		}
	}
	opened(t, cube(), cellsOf(t, cube()), api.ErrOpen)
	opened(t, parallels(40), cellsOf(t, parallels(40)), api.ErrOpen)
	opened(t, prism(20), cellsOf(t, prism(20))[100:101], api.ErrOpen)
}

// Errors with wrong data come before cells that are not bounded, and these before too many faces.
func TestOpenCellsAndManyFaces(t *testing.T) {
	s := everyOther(t, 67)
	solid, e := boundary.Make(s.planes, s.cells)
	hasNoFaces(t, "Make of many", solid, e, api.ErrLarge)
	s.cells = append(s.cells, strings.Repeat("-", len(s.planes)))
	solid, e = boundary.Make(s.planes, s.cells)
	hasNoFaces(t, "Make of many, not bounded", solid, e, api.ErrOpen)
	for _, name := range []string{"-", s.cells[0]} {
		solid, e = boundary.Make(s.planes, append(slices.Clone(s.cells), name))
		hasNoFaces(t, "Make of many with a wrong name", solid, e, api.ErrCells)
	}
}
