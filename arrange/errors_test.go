package arrange_test

import (
	"slices"
	"strings"
	"testing"

	"spokeshave/api"
	"spokeshave/arrange"
)

// withPlanes calls each function that takes one list of planes, also with what causes other errors, and checks that it returns the error want.
func withPlanes(t *testing.T, planes []api.Plane, want api.Errno) {
	t.Helper()
	if e := arrange.Check(planes); e != want {
		t.Errorf("Check: error %d, want %d", e, want)
	}
	l, e := arrange.Cells(planes)
	failsList(t, "Cells", l, e, want)
	corners, e := arrange.Corners(planes)
	failsList(t, "Corners", corners, e, want)
	counts, e := arrange.Counts(planes)
	fails(t, "Counts", counts, e, want)
	signs, e := arrange.Signs(planes, api.Point{1, 2, 3, 4})
	fails(t, "Signs", signs, e, want)
	for _, i := range []int{0, 1, len(planes) - 1, len(planes), -1, least, greatest} {
		l, e = arrange.Pieces(planes, i)
		failsList(t, "Pieces", l, e, want)
	}
	for _, s := range []string{"", "+", strings.Repeat("+", len(planes)), strings.Repeat("-", len(planes)), strings.Repeat("0", len(planes)), "x"} {
		is, e := arrange.IsCell(planes, s)
		fails(t, "IsCell", is, e, want)
		withName(t, planes, s, want)
	}
}

// wrongLists are lists that are too long, or with coincident planes.
func wrongLists() (large, coincident [][]api.Plane) {
	p := api.Plane{3, -2, 0, 5}
	large = [][]api.Plane{general(41), parallels(41), slices.Repeat([]api.Plane{p}, 41), append(general(40), general(1)...), slices.Repeat(general(40), 30)}
	coincident = [][]api.Plane{{p, p}, {p, opposite(p)}, {p, {1, 0, 0, 0}, opposite(p)}, append(general(39), opposite(general(39)[0])), append(cube(), cube()[5])}
	return large, coincident
}

func TestLongAndCoincidentPlanes(t *testing.T) {
	large, coincident := wrongLists()
	for _, l := range large {
		withPlanes(t, l, api.ErrLarge)
	}
	for _, l := range coincident {
		withPlanes(t, l, api.ErrCells)
	}
}

// A wrong plane comes before all other errors, wherever it is in the list.
func TestWrongPlanes(t *testing.T) {
	large, coincident := wrongLists()
	lists := slices.Concat([][]api.Plane{nil, {{1, 0, 0, 0}}, cube(), general(39)}, large, coincident)
	for _, p := range wrongPlanes() {
		for _, l := range lists {
			for _, at := range []int{0, len(l) / 2, len(l)} {
				withPlanes(t, slices.Insert(slices.Clone(l), at, p), api.ErrPlane)
			}
		}
	}
}

// Wrong planes come before wrong points, and these before lists that are too long, or have coincident planes.
func TestWrongPoints(t *testing.T) {
	large, coincident := wrongLists()
	for _, q := range wrongPoints() {
		for _, l := range slices.Concat([][]api.Plane{nil, {{1, 0, 0, 0}}, cube(), general(40)}, large, coincident) {
			s, e := arrange.Signs(l, q)
			fails(t, "Signs", s, e, api.ErrPoint)
			for _, p := range wrongPlanes() {
				s, e = arrange.Signs(append(slices.Clone(l), p), q)
				fails(t, "Signs", s, e, api.ErrPlane)
				s, e = arrange.Signs(append([]api.Plane{p}, l...), q)
				fails(t, "Signs", s, e, api.ErrPlane)
			}
		}
	}
}

// Functions change no planes, also not beyond the length of a list, nor read these; and their results are new memory.
func TestMemory(t *testing.T) {
	behind := append(cube(), api.Plane{1, 1, 0, 0}, api.Plane{}, api.Plane{7, 7, 7, 7}, api.Plane{9, 9, 9, 9})
	kept := slices.Clone(behind)
	for n := range 8 {
		planes := behind[:n]
		l, e := arrange.Cells(planes)
		again, f := arrange.Cells(planes)
		value(t, l, e)
		value(t, again, f)
		for _, s := range again {
			x, e := arrange.Sample(planes, s)
			in, f := arrange.At(planes, s, value(t, x, e))
			same(t, "At", in, f, true)
			near, e := arrange.Neighbours(planes, s)
			_ = append(value(t, near, e), 9)
		}
		clear(l)
		if slices.Contains(again[:len(again)-1], "") {
			t.Errorf("results of Cells share memory")
		}
		points, e := arrange.Corners(planes)
		clear(value(t, points, e))
		_ = append(points, api.Point{9})
		for i := range n {
			pieces, e := arrange.Pieces(planes, i)
			clear(value(t, pieces, e))
		}
		counts, e := arrange.Counts(planes)
		if value(t, counts, e)[3] != len(again) {
			t.Errorf("Counts of %d: %v", n, counts)
		}
		merged, e := arrange.Merge([][]api.Plane{planes, planes})
		if len(value(t, merged, e)) != n {
			t.Errorf("Merge of %d: %v", n, merged)
		}
		clear(merged)
		_ = append(merged, api.Plane{9})
		if !slices.Equal(behind, kept) {
			t.Errorf("planes changed by calls with %d: %v", n, behind)
		}
	}
}
