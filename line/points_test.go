package line_test

import (
	"slices"
	"testing"

	"spokeshave/api"
	"spokeshave/line"
	"spokeshave/plane"
	"spokeshave/point"
)

// onBoth asks whether a is on p and on q.
func onBoth(t *testing.T, p, q api.Plane, a api.Point) bool {
	t.Helper()
	m, e := plane.Side(p, a)
	n, f := plane.Side(q, a)
	return value(t, m, e) == 0 && value(t, n, f) == 0
}

// row are so many planes that meet the line of y = 0 and z = 0 in the points 0, 1, 2 ..
func row(n int) []api.Plane {
	var l []api.Plane
	for i := range n {
		l = append(l, api.Plane{1, 0, 0, int64(-i)})
	}
	return l
}

func TestPoints(t *testing.T) {
	y, z := api.Plane{0, 1, 0, 0}, api.Plane{0, 0, 1, 0}
	for _, c := range []struct {
		p, q api.Plane
		l    []api.Plane
		want []api.Point
	}{
		{y, z, nil, nil},
		{y, z, []api.Plane{}, nil},
		{y, z, []api.Plane{{1, 0, 0, -5}}, []api.Point{{5, 0, 0, 1}}},
		{y, z, []api.Plane{{1, 0, 0, -5}, {1, 0, 0, 2}, {2, 0, 0, -1}}, []api.Point{{-2, 0, 0, 1}, {1, 0, 0, 2}, {5, 0, 0, 1}}},
		{z, y, []api.Plane{{1, 0, 0, -5}, {1, 0, 0, 2}, {2, 0, 0, -1}}, []api.Point{{5, 0, 0, 1}, {1, 0, 0, 2}, {-2, 0, 0, 1}}},
		{opposite(y), z, []api.Plane{{1, 0, 0, -5}, {1, 0, 0, 2}}, []api.Point{{5, 0, 0, 1}, {-2, 0, 0, 1}}},
		{y, z, []api.Plane{{1, 0, 0, -5}, {-1, 0, 0, 5}, {1, 1, 1, -5}, {1, 0, 0, -5}, {1, -7, 0, -5}}, []api.Point{{5, 0, 0, 1}}},
		{y, z, []api.Plane{y, z, opposite(y), {0, 1, 1, 0}, {0, 1, 0, 1}, {0, 3, -5, 1000000}}, nil},
		{y, z, []api.Plane{y, {3, 1, 0, 1}, {0, 1, 1, 1}, {-3, 0, 0, 1}}, []api.Point{{-1, 0, 0, 3}, {1, 0, 0, 3}}},
		{y, z, []api.Plane{{1, 0, 0, 1000000}, {1, 0, 0, -1000000}, {1000, 0, 0, -1}, {999, 0, 0, -1}, {999, 0, 0, 1}}, []api.Point{{-1000000, 0, 0, 1}, {-1, 0, 0, 999}, {1, 0, 0, 1000}, {1, 0, 0, 999}, {1000000, 0, 0, 1}}},
		{api.Plane{1, 0, 0, -1}, api.Plane{0, 1, 0, -2}, []api.Plane{{0, 0, 1, -3}, {1, 1, 1, 0}, {0, 0, 2, 5}}, []api.Point{{1, 2, -3, 1}, {2, 4, -5, 2}, {1, 2, 3, 1}}},
		{api.Plane{1, -1, 0, 0}, api.Plane{0, 1, -1, 0}, []api.Plane{{1, 1, 1, -1}, {1, 0, 0, 0}, {0, 1, 1, 1}, {1, -1, 0, 5}, {1, 0, -1, 0}}, []api.Point{{-1, -1, -1, 2}, {0, 0, 0, 1}, {1, 1, 1, 3}}},
	} {
		got, e := line.Points(c.p, c.q, c.l)
		if e != api.OK || !slices.Equal(got, c.want) {
			t.Errorf("Points(%v, %v, %v): %v, error %d, want %v", c.p, c.q, c.l, got, e, c.want)
		}
	}
}

// arePoints checks that got are just the points of planes of l on the line, one after the other.
func arePoints(t *testing.T, p, q api.Plane, l []api.Plane, got []api.Point) {
	t.Helper()
	met := map[api.Point]bool{}
	for _, r := range l {
		if paperVolume(t, normalOf(p), normalOf(q), normalOf(r)) == 0 {
			continue
		}
		m, e := point.Meet(p, q, r)
		met[value(t, m, e)] = true
	}
	for i, a := range got {
		if !met[a] {
			t.Errorf("Points(%v, %v, %v): %v is not a point of it", p, q, l, a)
		}
		if i > 0 && paperAlong(t, p, q, got[i-1], a) != -1 {
			t.Errorf("Points(%v, %v, %v): %v does not come after %v", p, q, l, a, got[i-1])
		}
	}
	if len(got) != len(met) {
		t.Errorf("Points(%v, %v, %v): %d points, want %d", p, q, l, len(got), len(met))
	}
}

func TestPointsOfManyPlanes(t *testing.T) {
	r := rolls(5)
	found := 0
	for range 500 {
		p, q := r.line()
		l := r.neighbours(p, q, int(r.below(12)))
		given := slices.Clone(l)
		got, e := line.Points(p, q, l)
		arePoints(t, p, q, l, value(t, got, e))
		if !slices.Equal(l, given) {
			t.Errorf("Points changes its argument")
		}
		found += len(got)
	}
	if found < 1000 {
		t.Errorf("only %d points", found)
	}
}

// The coefficients are as great as they may be, and so are the points' weights: these are near to each other.
func TestPointsOfTheGreatestPlanes(t *testing.T) {
	r := rolls(6)
	top := int64(0)
	for range 100 {
		var l []api.Plane
		for len(l) < 10 {
			s := api.Plane{1000 - r.below(3), 1000 - r.below(3), 1000 - r.below(3), 1000000 - r.below(3)}
			for k := range s {
				s[k] *= 1 - 2*r.below(2)
			}
			if plane.Check(s) == api.OK {
				l = append(l, s)
			}
		}
		if cross(normalOf(l[0]), normalOf(l[1])) == ([3]int64{}) {
			continue
		}
		got, e := line.Points(l[0], l[1], l)
		arePoints(t, l[0], l[1], l, value(t, got, e))
		for _, a := range got {
			top = max(top, a[3])
		}
	}
	if top < 1_000_000_000 {
		t.Errorf("no weight greater than %d", top)
	}
}

func TestPointsOfLongLists(t *testing.T) {
	y, z := api.Plane{0, 1, 0, 0}, api.Plane{0, 0, 1, 0}
	l := row(1001)
	got, e := line.Points(y, z, l[:1000])
	if e != api.OK || len(got) != 1000 {
		t.Errorf("Points of 1000: %d, error %d", len(got), e)
	}
	for i, a := range got {
		if a != (api.Point{int64(i), 0, 0, 1}) {
			t.Errorf("point %d: %v", i, a)
		}
	}
	got, e = line.Points(y, z, l)
	failsList(t, "Points of 1001", got, e, api.ErrLarge)
	got, e = line.Points(y, z, slices.Repeat(l[:1], 1001))
	failsList(t, "Points of 1001 equal planes", got, e, api.ErrLarge)
	got, e = line.Points(y, z, slices.Repeat([]api.Plane{y}, 1001))
	failsList(t, "Points of 1001 parallel planes", got, e, api.ErrLarge)
	got, e = line.Points(y, z, slices.Repeat(l[3:4], 1000))
	if e != api.OK || !slices.Equal(got, []api.Point{{3, 0, 0, 1}}) {
		t.Errorf("Points of 1000 equal planes: %v, error %d", got, e)
	}
}

// What Points and Pencil return is new memory, and what lies beyond the list's length is neither read nor written.
func TestListsAndMemory(t *testing.T) {
	y, z := api.Plane{0, 1, 0, 0}, api.Plane{0, 0, 1, 0}
	behind := []api.Plane{{1, 0, 0, -2}, {0, 1, 0, 0}, {1, 0, 0, -1}, {0, 1, 1, 0}, {}, {7, 7, 7, 7}}
	kept := slices.Clone(behind)
	for n := range 5 {
		points, e := line.Points(y, z, behind[:n])
		if e != api.OK || len(points) != (n+1)/2 {
			t.Errorf("Points of %d: %v, error %d", n, points, e)
		}
		pencil, e := line.Pencil(y, z, behind[:n])
		if e != api.OK || len(pencil) != n/2 {
			t.Errorf("Pencil of %d: %v, error %d", n, pencil, e)
		}
		again, _ := line.Points(y, z, behind[:n])
		for i := range points {
			points[i] = api.Point{}
		}
		_, _ = append(points, api.Point{9}), append(pencil, 9)
		if !slices.Equal(behind, kept) || slices.Contains(again, api.Point{}) {
			t.Errorf("results of %d share memory", n)
		}
	}
}
