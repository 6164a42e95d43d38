package plane_test

import (
	"testing"

	"spokeshave/api"
	"spokeshave/plane"
)

// few are planes whose normals are equal, opposite, multiples, at a right angle, and others.
func few() []api.Plane {
	l := []api.Plane{
		{1, 0, 0, 0}, {-1, 0, 0, 0}, {2, 0, 0, 1}, {-2, 0, 0, 1}, {1, 0, 0, 7}, {0, 1, 0, 0}, {0, -1, 0, 5}, {0, 0, 3, 1},
		{1, 1, 0, 0}, {1, -1, 0, 0}, {1, 1, 1, 0}, {1, 1, -2, 4}, {2, 2, -4, 1}, {-1, -1, 2, -4}, {-1, -1, 2, 4}, {1, 1, -2, -4},
		{1000, 999, 998, 1000000}, {-1000, -999, -998, 1000000}, {1000, 999, 998, -1000000}, {-1000, -999, -998, -1000000},
		{999, -1000, 0, 0}, {1000, -1000, 1000, 1}, {500, -500, 500, 1}, {0, 1000, 999, 1}, {0, 999, -1000, 1}, {1000, 999, 997, 1},
	}
	r := rolls(11)
	for range 30 {
		l = append(l, r.plane())
	}
	return l
}

func TestParallelAlikeTurn(t *testing.T) {
	for _, p := range few() {
		for _, q := range few() {
			got, e := plane.Parallel(p, q)
			none := cross([3]int64{p[0], p[1], p[2]}, [3]int64{q[0], q[1], q[2]}) == [3]int64{}
			same(t, "Parallel", got, e, none)
			got, e = plane.Alike(p, q)
			same(t, "Alike", got, e, p == q || p == opposite(q))
			n, e := plane.Turn(p, q)
			same(t, "Turn", n, e, sign(p[0]*q[0]+p[1]*q[1]+p[2]*q[2]))
		}
	}
}

func TestParallelAlikeTurnByHand(t *testing.T) {
	for _, c := range []struct {
		p, q            api.Plane
		parallel, alike bool
		turn            int
	}{
		{api.Plane{1, 2, 3, 4}, api.Plane{1, 2, 3, 4}, true, true, 1},
		{api.Plane{1, 2, 3, 4}, api.Plane{-1, -2, -3, -4}, true, true, -1},
		{api.Plane{1, 2, 3, 4}, api.Plane{1, 2, 3, -4}, true, false, 1},
		{api.Plane{1, 2, 3, 4}, api.Plane{-1, -2, -3, 4}, true, false, -1},
		{api.Plane{1, 2, 3, 0}, api.Plane{2, 4, 6, 1}, true, false, 1},
		{api.Plane{1, 2, 3, 0}, api.Plane{1, 2, 4, 0}, false, false, 1},
		{api.Plane{1, 2, 3, 0}, api.Plane{3, 0, -1, 0}, false, false, 0},
		{api.Plane{0, 0, 1, 1000000}, api.Plane{1000, 1000, 0, 1}, false, false, 0},
		{api.Plane{1, 1, 0, 0}, api.Plane{-1, 0, 0, 0}, false, false, -1},
	} {
		parallel, e := plane.Parallel(c.p, c.q)
		same(t, "Parallel", parallel, e, c.parallel)
		alike, e := plane.Alike(c.p, c.q)
		same(t, "Alike", alike, e, c.alike)
		turn, e := plane.Turn(c.p, c.q)
		same(t, "Turn", turn, e, c.turn)
	}
}

func TestShift(t *testing.T) {
	const far = 1000000
	for _, c := range []struct {
		p    api.Plane
		v    [3]int64
		want api.Plane
	}{
		{api.Plane{1, 2, 3, 4}, [3]int64{}, api.Plane{1, 2, 3, 4}},
		{api.Plane{1, 2, 3, 4}, [3]int64{1, 1, 1}, api.Plane{1, 2, 3, -2}},
		{api.Plane{2, 0, 0, -1}, [3]int64{5, 9, 9}, api.Plane{2, 0, 0, -11}},
		{api.Plane{0, 0, -1, 0}, [3]int64{far, -far, far}, api.Plane{0, 0, -1, far}},
		{api.Plane{0, 0, 1, far}, [3]int64{-far, far, far}, api.Plane{0, 0, 1, 0}},
		{api.Plane{1, 0, 0, -far}, [3]int64{-1, 0, 0}, api.Plane{1, 0, 0, 1 - far}},
		{api.Plane{1000, -1000, 999, 0}, [3]int64{far, far, 0}, api.Plane{1000, -1000, 999, 0}},
		{api.Plane{1000, -1000, 999, 0}, [3]int64{1000, 0, 1}, api.Plane{}},
		{api.Plane{1000, -1000, 999, 0}, [3]int64{999, 0, 1}, api.Plane{1000, -1000, 999, -999999}},
		{api.Plane{1, 0, 0, -far}, [3]int64{1, 0, 0}, api.Plane{}},
		{api.Plane{1, 0, 0, far}, [3]int64{-1, 0, 0}, api.Plane{}},
		{api.Plane{1000, 1000, 1000, -999999}, [3]int64{far, far, far}, api.Plane{}},
		{api.Plane{-1000, -1000, -1000, 999999}, [3]int64{far, far, far}, api.Plane{}},
	} {
		got, e := plane.Shift(c.p, c.v)
		if c.want == (api.Plane{}) {
			fails(t, "Shift", got, e, api.ErrLarge)
			continue
		}
		same(t, "Shift", got, e, c.want)
	}
	for _, n := range []int64{far + 1, -far - 1, least, greatest} {
		for i := range 3 {
			v := [3]int64{1, 2, 3}
			v[i] = n
			got, e := plane.Shift(api.Plane{1, 0, 0, 1000000}, v)
			fails(t, "Shift", got, e, api.ErrArg)
		}
	}
}

// A plane that is shifted contains the points that were on it, moved likewise, and has them on the same sides.
func TestShiftMovesPoints(t *testing.T) {
	r := rolls(13)
	moved := 0
	for range 3000 {
		p, q := r.plane(), r.point(1<<20, 1<<10)
		v := [3]int64{r.within(1000), r.within(1000), r.within(1000)}
		got, e := plane.Shift(p, v)
		if e == api.ErrLarge {
			continue
		}
		moved++
		side, _ := plane.Side(p, q)
		n, e := plane.Side(value(t, got, e), api.Point{q[0] + v[0]*q[3], q[1] + v[1]*q[3], q[2] + v[2]*q[3], q[3]})
		same(t, "Side", n, e, side)
	}
	if moved < 500 {
		t.Errorf("only %d moved", moved)
	}
}
