package point_test

import (
	"cmp"
	"slices"
	"testing"

	"spokeshave/api"
	"spokeshave/point"
	"spokeshave/ratio"
)

// paperCmp compares coordinate by coordinate, by package ratio.
func paperCmp(t *testing.T, a, b api.Point) int {
	t.Helper()
	x, y := ratios(t, a), ratios(t, b)
	for i := range x {
		n, e := ratio.Cmp(x[i], y[i])
		if value(t, n, e) != 0 {
			return n
		}
	}
	return 0
}

// nearEachOther are points of which many differ by very little, and others at the limits.
func nearEachOther() []api.Point {
	return []api.Point{
		{-coord, -coord, -coord, 1}, {-coord, coord, 0, 1}, {1 - coord, -coord, 0, 1}, {-coord, 0, 0, 3}, {-3, 0, 0, 2}, {-1, 0, 0, 1}, {-1, 5, 5, 2}, {-1, 0, 0, weight - 1}, {-1, 0, 0, weight},
		{0, -1, 0, 1}, {0, -1, 0, 2}, {0, 0, -coord, 1}, {0, 0, -1, 3}, {0, 0, -1, 4}, {0, 0, 0, 1}, {0, 0, 1, weight}, {0, 0, 1, weight - 1}, {0, 0, 1, 1}, {0, 1, -7, 3}, {0, 1, -7, 2},
		{1, 0, 0, weight}, {1, 0, 0, weight - 1}, {1, 0, 0, 3}, {weight/2 - 1, 0, 0, weight - 1}, {1, 0, 0, 2}, {1, 0, 1, 2}, {1, 1, 0, 2}, {weight/2 + 1, 0, 0, weight},
		{weight - 2, 0, 0, weight - 1}, {weight - 1, 0, 0, weight}, {1, -coord, 0, 1}, {weight, weight, -1, weight}, {1, 1, 0, 1}, {weight, weight, 1, weight},
		{weight + 1, 0, 0, weight}, {weight, 0, 0, weight - 1}, {1000, 1000, 1000, 1}, {coord, 1, 1, weight}, {coord - 1, 0, 1, weight - 1}, {coord, 0, 1, weight - 1},
		{coord - 2, 0, 0, 1}, {coord, 0, 0, 1}, {coord, coord, coord - 1, 1}, {coord, coord, coord, 1},
	}
}

func TestCmp(t *testing.T) {
	l := append(rightPoints(), nearEachOther()...)
	areRight(t, l...)
	for _, a := range l {
		for _, b := range l {
			n, e := point.Cmp(a, b)
			same(t, "Cmp", n, e, paperCmp(t, a, b))
		}
	}
	r := rolls(6)
	for range 5000 {
		l := r.several(2)
		n, e := point.Cmp(l[0], l[1])
		same(t, "Cmp", n, e, paperCmp(t, l[0], l[1]))
	}
}

func TestCmpByHand(t *testing.T) {
	l := []api.Point{{-3, 0, 0, 2}, {-1, 9, 9, 1}, {0, -1, 5, 1}, {0, -1, 0, 2}, {0, 0, -1, 2}, {0, 0, -1, 3}, {0, 0, 0, 1}, {0, 0, 1, 3}, {0, 0, 1, 2}, {0, 1, -8, 2}, {1, -2, -2, 3}, {1, 0, 0, 2}, {1, 1, 0, 2}, {1, 1, 1, 2}, {1, 0, 0, 1}, {3, 0, 0, 2}, {2, 0, 0, 1}}
	for i, a := range l {
		for j, b := range l {
			n, e := point.Cmp(a, b)
			same(t, "Cmp", n, e, cmp.Compare(i, j))
		}
	}
}

func TestSort(t *testing.T) {
	r := rolls(7)
	near := nearEachOther()
	for _, n := range []int{0, 1, 2, 3, 10, 100, 999, 1000} {
		var l []api.Point
		for range n {
			if r.below(3) == 0 {
				l = append(l, near[r.below(int64(len(near)))])
				continue
			}
			l = append(l, r.several(1)[0])
		}
		given, want := slices.Clone(l), slices.Clone(l)
		slices.SortFunc(want, func(a, b api.Point) int { return paperCmp(t, a, b) })
		want = slices.Compact(want)
		got, e := point.Sort(l)
		if e != api.OK || !slices.Equal(got, want) {
			t.Errorf("Sort of %d: error %d, %v, want %v", n, e, got, want)
		}
		if !slices.Equal(l, given) {
			t.Errorf("Sort of %d changes its argument", n)
		}
	}
}

// many are so many points, all different, in order.
func many(n int) []api.Point {
	var l []api.Point
	for i := range n {
		l = append(l, api.Point{0, int64(i), 7, 1})
	}
	return l
}

func TestSortOfManyPoints(t *testing.T) {
	l := many(1001)
	got, e := point.Sort(l[:1000])
	if e != api.OK || !slices.Equal(got, l[:1000]) {
		t.Errorf("Sort of 1000: error %d", e)
	}
	for _, l := range [][]api.Point{l, many(5000), slices.Repeat([]api.Point{{1, 0, 0, 1}}, 1001)} {
		got, e := point.Sort(l)
		if e != api.ErrLarge || len(got) != 0 {
			t.Errorf("Sort of %d: %d, error %d", len(l), len(got), e)
		}
	}
	got, e = point.Sort(slices.Repeat([]api.Point{{1, 0, 0, 1}}, 1000))
	if e != api.OK || !slices.Equal(got, []api.Point{{1, 0, 0, 1}}) {
		t.Errorf("Sort of 1000 equal ones: %v, error %d", got, e)
	}
	for _, i := range []int{0, 500, 1000} {
		wrong := slices.Clone(l)
		wrong[i] = api.Point{2, 0, 0, 2}
		got, e = point.Sort(wrong)
		if e != api.ErrPoint || len(got) != 0 {
			t.Errorf("Sort of 1001 and a wrong one: %d, error %d", len(got), e)
		}
	}
}

// What Sort returns is new memory, and what lies beyond the list's length is neither read nor written.
func TestSortAndMemory(t *testing.T) {
	behind := []api.Point{{0, 0, 1, 2}, {0, 0, 1, 2}, {0, 0, 1, 1}, {}, {7, 7, 7, 7}}
	kept := slices.Clone(behind)
	for n := range 4 {
		got, e := point.Sort(behind[:n])
		if e != api.OK || len(got) != max(min(n, 1), n-1) {
			t.Errorf("Sort of %d: %v, error %d", n, got, e)
		}
		for i := range got {
			got[i] = api.Point{}
		}
		_ = append(got, api.Point{9})
		if !slices.Equal(behind, kept) {
			t.Errorf("Sort of %d shares memory with its argument", n)
		}
	}
	for _, l := range [][]api.Point{nil, {}} {
		if got, e := point.Sort(l); e != api.OK || len(got) != 0 {
			t.Errorf("Sort of none: %v, error %d", got, e)
		}
	}
}
