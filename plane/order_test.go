package plane_test

import (
	"cmp"
	"slices"
	"testing"

	"spokeshave/api"
	"spokeshave/plane"
)

func paperCmp(p, q api.Plane) int {
	return slices.Compare(p[:], q[:])
}

// many are so many planes, all different, in order.
func many(n int) []api.Plane {
	var l []api.Plane
	for i := range n {
		l = append(l, api.Plane{1, 0, 0, int64(i)})
	}
	return l
}

func TestCmp(t *testing.T) {
	l := []api.Plane{{-1000, 0, 0, 1}, {-1, 0, 0, 0}, {0, -1, 0, 1000000}, {0, 0, -1, 0}, {0, 0, 1, -1000000}, {0, 0, 1, 1000000}, {0, 1, -1000, 3}, {0, 1, 0, -3}, {1, -7, 0, 0}, {1, 0, 0, -1}, {1, 0, 0, 0}, {1, 0, 0, 1}, {1000, 1000, 1000, 1}}
	for i, p := range l {
		for j, q := range l {
			n, e := plane.Cmp(p, q)
			same(t, "Cmp", n, e, cmp.Compare(i, j))
		}
	}
	for _, p := range few() {
		for _, q := range few() {
			n, e := plane.Cmp(p, q)
			same(t, "Cmp", n, e, paperCmp(p, q))
		}
	}
}

func TestSort(t *testing.T) {
	r := rolls(17)
	small := []api.Plane{{0, 0, 1, 0}, {0, 0, 1, 1}, {0, 1, 0, 0}, {-1, 0, 0, 0}, {1, 0, 0, 0}}
	for _, n := range []int{0, 1, 2, 3, 10, 100, 999, 1000} {
		var l []api.Plane
		for range n {
			if r.below(2) == 0 {
				l = append(l, small[r.below(5)])
				continue
			}
			l = append(l, r.plane())
		}
		given := slices.Clone(l)
		want := slices.Clone(l)
		slices.SortFunc(want, paperCmp)
		want = slices.Compact(want)
		got, e := plane.Sort(l)
		if e != api.OK || !slices.Equal(got, want) {
			t.Errorf("Sort of %d: error %d, %v, want %v", n, e, got, want)
		}
		if !slices.Equal(l, given) {
			t.Errorf("Sort of %d changes its argument", n)
		}
	}
}

func TestSortOfManyPlanes(t *testing.T) {
	l := many(1001)
	got, e := plane.Sort(l[:1000])
	if e != api.OK || !slices.Equal(got, l[:1000]) {
		t.Errorf("Sort of 1000: error %d", e)
	}
	got, e = plane.Sort(l)
	if e != api.ErrLarge || len(got) != 0 {
		t.Errorf("Sort of 1001: %d, error %d", len(got), e)
	}
	got, e = plane.Sort(make1001Equal())
	if e != api.ErrLarge || len(got) != 0 {
		t.Errorf("Sort of 1001 equal ones: %d, error %d", len(got), e)
	}
	for _, i := range []int{0, 500, 1000} {
		wrong := slices.Clone(l)
		wrong[i] = api.Plane{2, 0, 0, 0}
		got, e = plane.Sort(wrong)
		if e != api.ErrPlane || len(got) != 0 {
			t.Errorf("Sort of 1001 and a wrong one: %d, error %d", len(got), e)
		}
	}
}

func make1001Equal() []api.Plane {
	return slices.Repeat([]api.Plane{{1, 0, 0, 0}}, 1001)
}

func TestSortOfNone(t *testing.T) {
	for _, l := range [][]api.Plane{nil, {}} {
		if got, e := plane.Sort(l); e != api.OK || len(got) != 0 {
			t.Errorf("Sort of none: %v, error %d", got, e)
		}
	}
}

// What Sort returns is new memory, and what lies beyond the list's length is neither read nor written.
func TestSortAndMemory(t *testing.T) {
	behind := []api.Plane{{0, 0, 1, 0}, {0, 0, 1, 0}, {0, 0, 1, 1}, {}, {7, 7, 7, 7}}
	kept := slices.Clone(behind)
	for n := range 4 {
		got, e := plane.Sort(behind[:n])
		if e != api.OK || len(got) != max(min(n, 1), n-1) {
			t.Errorf("Sort of %d: %v, error %d", n, got, e)
		}
		for i := range got {
			got[i] = api.Plane{}
		}
		_ = append(got, api.Plane{9})
		if !slices.Equal(behind, kept) {
			t.Errorf("Sort of %d shares memory with its argument", n)
		}
	}
}
