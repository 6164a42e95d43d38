package line_test

import (
	"slices"
	"testing"

	"spokeshave/api"
	"spokeshave/line"
	"spokeshave/plane"
	"spokeshave/point"
)

func TestPencil(t *testing.T) {
	x, y := api.Plane{1, 0, 0, 0}, api.Plane{0, 1, 0, 0}
	a, b := api.Plane{1000, 999, 998, 1000000}, api.Plane{-1000, 999, 997, -1000000}
	for _, c := range []struct {
		p, q api.Plane
		l    []api.Plane
		want []int
	}{
		{x, y, nil, nil},
		{x, y, []api.Plane{}, nil},
		{x, y, []api.Plane{x, y}, []int{0, 1}},
		{x, y, []api.Plane{{0, 0, 1, 0}, opposite(y), x, x, {1, 0, 0, 1}, {1, 1, 0, 0}, {1, 1, 0, -1}, {999, -1000, 0, 0}}, []int{1, 2, 3, 5, 7}},
		// Planes through one point of the line, planes parallel to it, one that is parallel to p.
		{x, y, []api.Plane{{0, 0, 1, 0}, {1, 0, 1, 0}, {0, 1, 1, 0}, {1000, 1000, 1, 0}, {1000, 1000, 0, 1}, {1, 0, 0, 1000000}}, nil},
		{api.Plane{1, 0, 0, -1}, api.Plane{0, 1, 0, -2}, []api.Plane{{1, 1, 0, -3}, {1, 1, 0, 3}, {2, -1, 0, 0}, {0, 0, 1, 0}, {1, 1, 1, -3}, {-1, 0, 0, 1}}, []int{0, 2, 5}},
		{a, b, []api.Plane{{0, 1998, 1995, 0}, {0, 666, 665, 0}, {2000, 0, 1, 2000000}, {0, 666, 665, 1}, {0, 333, 332, 0}, {1, 666, 665, 0}, opposite(b), a}, nil},
	} {
		if c.p == a {
			c.l[0], c.l[2] = a, b
			c.want = []int{0, 1, 2, 6, 7}
		}
		got, e := line.Pencil(c.p, c.q, c.l)
		if e != api.OK || !slices.Equal(got, c.want) {
			t.Errorf("Pencil(%v, %v, %v): %v, error %d, want %v", c.p, c.q, c.l, got, e, c.want)
		}
	}
}

// A plane contains the line just if it contains two of its points.
func TestPencilOfManyPlanes(t *testing.T) {
	r := rolls(12)
	found, others := 0, 0
	for range 1000 {
		p, q := r.line()
		a, b := r.on(p, q), r.on(p, q)
		if a == b {
			continue
		}
		l := r.neighbours(p, q, int(r.below(12)))
		given := slices.Clone(l)
		var want []int
		for i, s := range l {
			if onBoth(t, s, s, a) && onBoth(t, s, s, b) {
				want = append(want, i)
			}
		}
		got, e := line.Pencil(p, q, l)
		if e != api.OK || !slices.Equal(got, want) || !slices.Equal(l, given) {
			t.Errorf("Pencil(%v, %v, %v): %v, error %d, want %v", p, q, l, got, e, want)
		}
		found, others = found+len(got), others+len(l)-len(got)
	}
	if found < 500 || others < 500 {
		t.Errorf("only %d in a pencil, %d others", found, others)
	}
}

// All planes that contain one point contain the line just if they are parallel to it.
func TestPencilOfPlanesThroughOnePoint(t *testing.T) {
	r := rolls(13)
	found, others := 0, 0
	for range 2000 {
		p, q, s := r.plane(3, 0), r.plane(3, 0), r.plane(3, 0)
		if cross(normalOf(p), normalOf(q)) == ([3]int64{}) {
			continue
		}
		v := [3]int64{r.within(20), r.within(20), r.within(20)}
		for _, m := range []*api.Plane{&p, &q, &s} {
			moved, e := plane.Shift(*m, v)
			*m = value(t, moved, e)
		}
		got, e := line.Pencil(p, q, []api.Plane{s})
		_, none := point.Meet(p, q, s)
		if e != api.OK || (len(got) == 1) != (none == api.ErrNone) {
			t.Errorf("Pencil(%v, %v, %v): %v, error %d", p, q, s, got, e)
		}
		found, others = found+len(got), others+1-len(got)
	}
	if found < 100 || others < 500 {
		t.Errorf("only %d in a pencil, %d others", found, others)
	}
}

func TestPencilOfLongLists(t *testing.T) {
	y, z := api.Plane{0, 1, 0, 0}, api.Plane{0, 0, 1, 0}
	l := row(1001)
	l[0], l[500], l[999] = y, z, api.Plane{0, 7, -5, 0}
	got, e := line.Pencil(y, z, l[:1000])
	if e != api.OK || !slices.Equal(got, []int{0, 500, 999}) {
		t.Errorf("Pencil of 1000: %v, error %d", got, e)
	}
	got, e = line.Pencil(y, z, slices.Repeat([]api.Plane{y}, 1000))
	if e != api.OK || len(got) != 1000 || got[999] != 999 {
		t.Errorf("Pencil of 1000 equal planes: %d, error %d", len(got), e)
	}
	got, e = line.Pencil(y, z, l)
	failsList(t, "Pencil of 1001", got, e, api.ErrLarge)
	got, e = line.Pencil(y, z, slices.Repeat([]api.Plane{y}, 1001))
	failsList(t, "Pencil of 1001 equal planes", got, e, api.ErrLarge)
}
