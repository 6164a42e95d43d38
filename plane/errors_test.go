package plane_test

import (
	"testing"

	"spokeshave/api"
	"spokeshave/plane"
)

// Each wrong plane is put where a call takes a plane, also beside other errors.
func TestWrongPlanes(t *testing.T) {
	good, point := api.Plane{1, 2, 3, 1000000}, api.Point{1, 2, 3, 4}
	for _, p := range append(wrongPlanes(), api.Plane{1001, 0, 0, 1000001}) {
		for _, q := range append(wrongPoints(), point) {
			n, e := plane.Side(p, q)
			fails(t, "Side", n, e, api.ErrPlane)
		}
		for _, l := range [][2]api.Plane{{p, good}, {good, p}, {p, p}, {p, {}}, {{}, p}} {
			yes, e := plane.Parallel(l[0], l[1])
			fails(t, "Parallel", yes, e, api.ErrPlane)
			yes, e = plane.Alike(l[0], l[1])
			fails(t, "Alike", yes, e, api.ErrPlane)
			n, e := plane.Turn(l[0], l[1])
			fails(t, "Turn", n, e, api.ErrPlane)
			n, e = plane.Cmp(l[0], l[1])
			fails(t, "Cmp", n, e, api.ErrPlane)
		}
		for _, v := range [][3]int64{{}, {1, 2, 3}, {1000001, 0, 0}, {0, least, greatest}} {
			got, e := plane.Shift(p, v)
			fails(t, "Shift", got, e, api.ErrPlane)
		}
		for _, l := range [][]api.Plane{{p}, {good, p}, {p, good}, {good, good, p, good}} {
			if got, e := plane.Sort(l); e != api.ErrPlane || len(got) != 0 {
				t.Errorf("Sort(%v): %v, error %d", l, got, e)
			}
		}
	}
}

func TestWrongPoints(t *testing.T) {
	a, b := api.Point{0, 0, 0, 1}, api.Point{api.MaxCoord, -api.MaxCoord, 1, api.MaxWeight}
	for _, q := range wrongPoints() {
		for _, p := range few() {
			n, e := plane.Side(p, q)
			fails(t, "Side", n, e, api.ErrPoint)
		}
		for _, l := range [][3]api.Point{{q, a, b}, {a, q, b}, {a, b, q}, {a, a, q}, {q, q, q}, {q, a, a}, {a, q, a}} {
			got, e := plane.Through(l[0], l[1], l[2])
			fails(t, "Through", got, e, api.ErrPoint)
		}
	}
}

// All right points are taken, also those at the limits.
func TestRightPoints(t *testing.T) {
	const coord, weight = api.MaxCoord, api.MaxWeight
	for _, q := range []api.Point{
		{0, 0, 0, 1}, {coord, coord, coord, 1}, {-coord, -coord, -coord, 1}, {1, 0, 0, weight}, {coord - 1, -coord, coord, weight},
		{coord, coord, -coord + 1, weight}, {0, 0, 3, 2}, {6, 10, 15, 30}, {0, 0, 1, 1 << 32}, {2, 4, 6, 1},
	} {
		n, e := plane.Side(api.Plane{0, 0, 0, 1}, q)
		fails(t, "Side of a wrong plane", n, e, api.ErrPlane)
		n, e = plane.Side(api.Plane{1, 1, 1, 0}, q)
		same(t, "Side", n, e, sign(q[0]+q[1]+q[2]))
	}
}
