package arrange_test

import (
	"slices"
	"testing"

	"spokeshave/api"
	"spokeshave/arrange"
	"spokeshave/point"
)

func TestPieces(t *testing.T) {
	for _, c := range []struct {
		planes []api.Plane
		i      int
		want   []string
	}{
		{[]api.Plane{{1, 2, 3, 4}}, 0, []string{"0"}},
		{[]api.Plane{{1, 0, 0, 0}, {1, 0, 0, -1}}, 0, []string{"0-"}},
		{[]api.Plane{{1, 0, 0, 0}, {1, 0, 0, -1}}, 1, []string{"+0"}},
		{[]api.Plane{{1, 0, 0, 0}, {0, 1, 0, 0}}, 0, []string{"0+", "0-"}},
		{[]api.Plane{{1, 0, 0, 0}, {0, 1, 0, 0}}, 1, []string{"+0", "-0"}},
		{[]api.Plane{{1, 0, 0, 0}, {0, 1, 0, 0}, {1, 1, 0, 0}}, 0, []string{"0++", "0--"}},
		{[]api.Plane{{1, 0, 0, 0}, {0, 1, 0, 0}, {1, 1, 0, 0}}, 2, []string{"+-0", "-+0"}},
		{[]api.Plane{{1, 0, 0, 0}, {0, 1, 0, 0}, {1, 1, 0, -1}}, 2, []string{"++0", "+-0", "-+0"}},
		{[]api.Plane{{1, 0, 0, 0}, {0, 1, 0, 0}, {0, 0, 1, 0}}, 1, []string{"+0+", "+0-", "-0+", "-0-"}},
		{cube(), 5, []string{"+-+--0", "+--+-0", "+----0", "-++--0", "-+-+-0", "-+---0", "--+--0", "---+-0", "-----0"}},
	} {
		got, e := arrange.Pieces(c.planes, c.i)
		sameList(t, "Pieces", got, e, c.want...)
	}
}

// A string names a piece if it names cells with either sign there; the number is the one of the sums in the plane.
func TestPiecesOfAllKinds(t *testing.T) {
	for name, planes := range lists() {
		l, known := cellsOf(t, planes)
		f := flatsOf(t, planes)
		for i := range planes {
			var want []string
			for _, s := range l {
				if s[i] == '+' && known[turned(s, i)] {
					want = append(want, with(s, i, '0'))
				}
			}
			got, e := arrange.Pieces(planes, i)
			sameList(t, "Pieces of "+name, got, e, want...)
			if len(got) != f.pieces(i) {
				t.Errorf("Pieces of %s: %d, want %d", name, len(got), f.pieces(i))
			}
		}
	}
}

func TestIndicesOfNoPlanes(t *testing.T) {
	for _, planes := range [][]api.Plane{nil, {{1, 2, 3, 4}}, cube(), general(40), parallels(40)} {
		n := len(planes)
		for _, i := range []int{-1, n, n + 1, 40, 41, 63, 64, 65, -64, least, greatest, greatest - 1} {
			if i >= 0 && i < n {
				continue
			}
			got, e := arrange.Pieces(planes, i)
			failsList(t, "Pieces of no plane", got, e, api.ErrArg)
		}
	}
}

func TestCorners(t *testing.T) {
	for _, c := range []struct {
		planes []api.Plane
		want   []api.Point
	}{
		{nil, nil},
		{[]api.Plane{{1, 2, 3, 4}}, nil},
		{[]api.Plane{{1, 2, 3, 4}, {3, 2, 1, 4}}, nil},
		{[]api.Plane{{1, 0, 0, -1}, {0, 1, 0, 2}, {0, 0, 3, 1}}, []api.Point{{3, -6, -1, 3}}},
		{cube(), []api.Point{{0, 0, 0, 1}, {0, 0, 1, 1}, {0, 1, 0, 1}, {0, 1, 1, 1}, {1, 0, 0, 1}, {1, 0, 1, 1}, {1, 1, 0, 1}, {1, 1, 1, 1}}},
		{pencil(40), nil}, {parallels(40), nil}, {prism(40), nil},
		{central(40), []api.Point{{2, 3, 4, 1}}},
		{[]api.Plane{{1, 0, 0, -1000000}, {0, 1, 0, 1000000}, {0, 0, 1, -1000000}, {1, 0, 0, 1000000}}, []api.Point{{-1000000, -1000000, 1000000, 1}, {1000000, -1000000, 1000000, 1}}},
		{[]api.Plane{{2, 0, 0, -1}, {3, 0, 0, -1}, {3, 0, 0, 1}, {0, 1, 0, 0}, {0, 0, 1, 0}}, []api.Point{{-1, 0, 0, 3}, {1, 0, 0, 3}, {1, 0, 0, 2}}},
	} {
		got, e := arrange.Corners(c.planes)
		sameList(t, "Corners", got, e, c.want...)
	}
}

// The corners are the points of all three planes that have one alone.
func TestCornersOfAllKinds(t *testing.T) {
	for name, planes := range lists() {
		var want []api.Point
		for i, p := range planes {
			for j, q := range planes[:i] {
				for _, r := range planes[:j] {
					if a, e := point.Meet(p, q, r); e == api.OK {
						want = append(want, a)
					}
				}
			}
		}
		want, e := point.Sort(want)
		value(t, want, e)
		got, e := arrange.Corners(planes)
		sameList(t, "Corners of "+name, got, e, want...)
	}
}

func TestCounts(t *testing.T) {
	for _, c := range []struct {
		planes []api.Plane
		want   [4]int
	}{
		{nil, [4]int{0, 0, 0, 1}},
		{[]api.Plane{{1, 2, 3, 4}}, [4]int{0, 0, 1, 2}},
		{[]api.Plane{{1, 0, 0, 0}, {1, 0, 0, -1}}, [4]int{0, 0, 2, 3}},
		{[]api.Plane{{1, 0, 0, 0}, {0, 1, 0, -1}}, [4]int{0, 1, 4, 4}},
		{[]api.Plane{{1, 0, 0, 0}, {0, 1, 0, 0}, {1, 1, 0, 0}}, [4]int{0, 1, 6, 6}},
		{[]api.Plane{{1, 0, 0, 0}, {0, 1, 0, 0}, {1, 1, 0, -1}}, [4]int{0, 3, 9, 7}},
		{[]api.Plane{{1, 0, 0, 0}, {0, 1, 0, 0}, {0, 0, 1, 0}}, [4]int{1, 6, 12, 8}},
		{[]api.Plane{{1, 0, 0, 0}, {0, 1, 0, 0}, {0, 0, 1, 0}, {1, 1, 0, 0}}, [4]int{1, 8, 18, 12}},
		{cube(), [4]int{8, 36, 54, 27}},
		{parallels(40), [4]int{0, 0, 40, 41}},
		{pencil(40), [4]int{0, 1, 80, 80}},
		{prism(40), [4]int{0, 780, 1600, 821}},
		{central(40), [4]int{1, 1560, 3120, 1562}},
		{grid(14, 13, 13), [4]int{14 * 13 * 13, 15*13*13 + 2*14*13*14, 13*15*14*2 + 14*14*14, 15 * 14 * 14}},
		{general(40), [4]int{9880, 780 * 39, 40 * 781, 10701}},
	} {
		got, e := arrange.Counts(c.planes)
		same(t, "Counts", got, e, c.want)
	}
}

// hasCounts checks all numbers by the sums over lines and corners.
func hasCounts(t *testing.T, name string, planes []api.Plane) [4]int {
	t.Helper()
	f := flatsOf(t, planes)
	cells, _ := f.numbers(len(planes))
	pieces := 0
	for i := range planes {
		pieces += f.pieces(i)
	}
	got, e := arrange.Counts(planes)
	same(t, "Counts of "+name, got, e, [4]int{len(f.corners), f.segments(), pieces, cells})
	return got
}

func TestCountsOfAllKinds(t *testing.T) {
	for name, planes := range lists() {
		hasCounts(t, name, planes)
	}
}

// Lists of MaxPlanes: all numbers, lists and names agree.
func TestLongLists(t *testing.T) {
	for name, planes := range long() {
		counts := hasCounts(t, name, planes)
		l, known := cellsOf(t, planes)
		points, e := arrange.Corners(planes)
		if len(value(t, points, e)) != counts[0] || len(known) != counts[3] || len(l) != counts[3] || !slices.IsSorted(l) {
			t.Errorf("%s: %d corners, %d cells, want %v", name, len(points), len(l), counts)
		}
		hasOrder(t, name, points)
		pieces := 0
		for i := range planes {
			all, e := arrange.Pieces(planes, i)
			pieces += len(value(t, all, e))
			for _, s := range all {
				if !known[with(s, i, '+')] || !known[with(s, i, '-')] {
					t.Errorf("%s: %s is not between two cells", name, s)
				}
			}
			if !slices.IsSorted(all) || len(slices.Compact(all)) != len(all) {
				t.Errorf("Pieces of %s are not in order", name)
			}
		}
		if pieces != counts[2] {
			t.Errorf("%s: %d pieces, want %v", name, pieces, counts)
		}
		someCells(t, name, planes, l, known, counts[0] > 0)
	}
}

func hasOrder(t *testing.T, name string, points []api.Point) {
	t.Helper()
	for i := range max(1, len(points)) - 1 {
		n, e := point.Cmp(points[i], points[i+1])
		if value(t, n, e) != -1 {
			t.Errorf("Corners of %s: %v, %v", name, points[i], points[i+1])
		}
	}
}

// someCells examines one cell of many, and strings that differ from its name in few signs.
func someCells(t *testing.T, name string, planes []api.Plane, l []string, known map[string]bool, haveCorners bool) {
	t.Helper()
	for k := 0; k < len(l); k += max(1, len(l)/20) {
		s := l[k]
		x, e := arrange.Sample(planes, s)
		same(t, "the signs of a sample of "+name, paperSigns(t, planes, value(t, x, e)), e, s)
		in, e := arrange.At(planes, s, x)
		same(t, "At of "+name, in, e, true)
		bounded, e := arrange.IsBounded(planes, s)
		same(t, "IsBounded of "+name, bounded, e, haveCorners && !hasNoEnd(planes, s))
		var want []int
		for i := range planes {
			got, e := arrange.IsCell(planes, turned(s, i))
			same(t, "IsCell of "+name, got, e, known[turned(s, i)])
			if got {
				want = append(want, i)
			}
			other := turned(turned(s, i), (7*i+1)%len(planes))
			got, e = arrange.IsCell(planes, other)
			same(t, "IsCell of "+name, got, e, known[other])
		}
		all, e := arrange.Neighbours(planes, s)
		sameList(t, "Neighbours of "+name, all, e, want...)
	}
}

// Bounded cells of MaxPlanes planes: as many as the sums say.
func TestBoundedCellsOfLongLists(t *testing.T) {
	all := long()
	for _, name := range []string{"parallel ones", "a pencil", "a prism", "planes with a point", "boxes", "middling ones"} {
		planes := all[name]
		_, want := flatsOf(t, planes).numbers(len(planes))
		l, _ := cellsOf(t, planes)
		n := 0
		for _, s := range l {
			is, e := arrange.IsBounded(planes, s)
			if value(t, is, e) {
				n++
			}
		}
		if n != want {
			t.Errorf("bounded cells of %s: %d, want %d", name, n, want)
		}
	}
}
