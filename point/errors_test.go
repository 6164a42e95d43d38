package point_test

import (
	"testing"

	"spokeshave/api"
	"spokeshave/point"
)

// Each wrong point is put where a call takes a point, also beside what causes other errors.
func TestWrongPoints(t *testing.T) {
	a, b := api.Point{1, 0, 0, weight}, api.Point{coord, -coord, 1, weight - 1}
	for _, q := range wrongPoints() {
		s, e := point.Coordinates(q)
		fails(t, "Coordinates", s, e, api.ErrPoint)
		for _, v := range [][3]int64{{}, {1, 2, 3}, {1000000, 0, 0}, {1000001, 0, 0}, {0, least, greatest}} {
			got, e := point.Shift(q, v)
			fails(t, "Shift", got, e, api.ErrPoint)
		}
		for _, l := range [][2]api.Point{{q, a}, {a, q}, {q, q}, {q, b}, {b, q}, {q, {}}, {{}, q}} {
			n, e := point.Cmp(l[0], l[1])
			fails(t, "Cmp", n, e, api.ErrPoint)
			got, e := point.Middle(l[0], l[1])
			fails(t, "Middle", got, e, api.ErrPoint)
			s, e := point.Distance(l[0], l[1])
			fails(t, "Distance", s, e, api.ErrPoint)
		}
		for _, l := range [][3]api.Point{{q, a, b}, {a, q, b}, {a, b, q}, {q, a, a}, {a, q, a}, {a, a, q}, {q, q, q}} {
			yes, e := point.OnLine(l[0], l[1], l[2])
			fails(t, "OnLine", yes, e, api.ErrPoint)
			yes, e = point.Between(l[0], l[1], l[2])
			fails(t, "Between", yes, e, api.ErrPoint)
			for _, d := range []api.Point{a, b, q} {
				n, e := point.Orient(l[0], l[1], l[2], d)
				fails(t, "Orient", n, e, api.ErrPoint)
				n, e = point.Orient(d, l[0], l[1], l[2])
				fails(t, "Orient", n, e, api.ErrPoint)
			}
		}
		for _, l := range [][]api.Point{{q}, {a, q}, {q, a}, {a, a, q, b}} {
			if got, e := point.Sort(l); e != api.ErrPoint || len(got) != 0 {
				t.Errorf("Sort(%v): %v, error %d", l, got, e)
			}
		}
	}
}

func TestWrongPlanes(t *testing.T) {
	a, b := api.Plane{1, 2, 3, 1000000}, api.Plane{0, 0, 1, 0}
	for _, p := range wrongPlanes() {
		for _, l := range [][3]api.Plane{{p, a, b}, {a, p, b}, {a, b, p}, {p, a, a}, {a, p, a}, {a, a, p}, {p, p, p}, {p, {}, a}} {
			got, e := point.Meet(l[0], l[1], l[2])
			fails(t, "Meet", got, e, api.ErrPlane)
		}
	}
}
