package plane_test

import (
	"testing"

	"spokeshave/api"
	"spokeshave/plane"
	"spokeshave/wide"
)

func TestSide(t *testing.T) {
	const coord, weight = api.MaxCoord, api.MaxWeight
	for _, c := range []struct {
		p    api.Plane
		q    api.Point
		want int
	}{
		{api.Plane{1, 0, 0, -1}, api.Point{1, 0, 0, 1}, 0},
		{api.Plane{1, 0, 0, -1}, api.Point{3, 0, 0, 2}, 1},
		{api.Plane{-1, 0, 0, 1}, api.Point{1, 0, 0, 2}, 1},
		{api.Plane{0, 2, 0, -1}, api.Point{0, 1, 0, 2}, 0},
		{api.Plane{0, 0, 3, 1}, api.Point{9, 9, -1, 3}, 0},
		{api.Plane{1000, 1000, 1000, -999999}, api.Point{coord, coord, coord, 1}, 1},
		{api.Plane{-1000, -1000, -1000, -999999}, api.Point{coord, coord, coord, 1}, -1},
		{api.Plane{1000, 1000, 1000, 999999}, api.Point{-coord, -coord, -coord, 1}, -1},
		{api.Plane{1, 0, 0, 1000}, api.Point{-1000*weight + 1, 0, 0, weight}, 1},
		{api.Plane{1, 0, 0, -1000}, api.Point{1000*weight - 1, 0, 0, weight}, -1},
		{api.Plane{1, 0, 0, -1000}, api.Point{1000*weight + 1, 0, 0, weight}, 1},
		{api.Plane{1, 0, 0, -1000000}, api.Point{1000000, 5, 0, 1}, 0},
		{api.Plane{1000, -999, 0, 0}, api.Point{999, 1000, 0, weight - 1}, 0},
		{api.Plane{1000, -999, 0, 0}, api.Point{999 * 7, 1000 * 7, 1, weight}, 0},
	} {
		got, e := plane.Side(c.p, c.q)
		same(t, "Side", got, e, c.want)
	}
}

func TestSideOfManyPoints(t *testing.T) {
	r := rolls(3)
	for range 5000 {
		p, q := r.plane(), r.point(api.MaxCoord, api.MaxWeight)
		got, e := plane.Side(p, q)
		same(t, "Side", got, e, sign(p[0]*q[0]+p[1]*q[1]+p[2]*q[2]+p[3]*q[3]))
	}
}

func TestThrough(t *testing.T) {
	const coord, weight = api.MaxCoord, api.MaxWeight
	for _, c := range []struct {
		l    [3]api.Point
		want api.Plane
	}{
		{[3]api.Point{{0, 0, 0, 1}, {0, 1, 0, 1}, {1, 0, 0, 1}}, api.Plane{0, 0, -1, 0}},
		{[3]api.Point{{1, 0, 0, 1}, {0, 1, 0, 1}, {0, 0, 1, 1}}, api.Plane{1, 1, 1, -1}},
		{[3]api.Point{{1, 0, 0, 2}, {0, 1, 0, 3}, {0, 0, 1, 5}}, api.Plane{2, 3, 5, -1}},
		{[3]api.Point{{1, 0, 0, 2}, {1, 1, 0, 2}, {1, 0, 1, 2}}, api.Plane{2, 0, 0, -1}},
		{[3]api.Point{{coord, coord, coord, 1}, {-coord, coord, 0, 1}, {0, -coord, -coord, 1}}, api.Plane{}},
		{[3]api.Point{{coord, coord - 1, 0, 1}, {-coord, coord, 0, 1}, {0, -coord, 0, 1}}, api.Plane{0, 0, 1, 0}},
		{[3]api.Point{{coord, 1, 1, weight - 1}, {coord - 1, 1, 1, weight}, {1, 1, 1, weight}}, api.Plane{0, 1, -1, 0}},
		{[3]api.Point{{coord, 0, 1, weight - 1}, {coord - 1, 0, 1, weight}, {1, 0, 1, weight}}, api.Plane{0, 1, 0, 0}},
		{[3]api.Point{{1000000, 0, 0, 1}, {1000000, 1, 0, weight}, {1000000, 0, 1, weight}}, api.Plane{}},
		{[3]api.Point{{1000000, 0, 0, 1}, {1000000, coord, 0, 1}, {1000000, 0, coord, 1}}, api.Plane{1, 0, 0, -1000000}},
		{[3]api.Point{{-1000000, 0, 0, 1}, {-1000000, coord, 0, 1}, {-1000000, 0, -coord, 1}}, api.Plane{-1, 0, 0, -1000000}},
		{[3]api.Point{{1000001, 0, 0, 1}, {1000001, 1, 0, 1}, {1000001, 0, 1, 1}}, api.Plane{}},
		{[3]api.Point{{1, 0, 0, 1000}, {1, 1000, 0, 1000}, {1, 0, 1000, 1000}}, api.Plane{1000, 0, 0, -1}},
		{[3]api.Point{{1, 0, 0, 1000}, {1, 1, 0, 1000}, {1, 0, 1, 1000}}, api.Plane{1000, 0, 0, -1}},
		{[3]api.Point{{1, 0, 0, 1001}, {1, 1, 0, 1001}, {1, 0, 1, 1001}}, api.Plane{}},
		{[3]api.Point{{0, 0, 0, 1}, {1000, 999, 0, 1}, {0, 0, 1, 1}}, api.Plane{999, -1000, 0, 0}},
		{[3]api.Point{{0, 0, 0, 1}, {1001, 999, 0, 1}, {0, 0, 1, 1}}, api.Plane{}},
	} {
		got, e := plane.Through(c.l[0], c.l[1], c.l[2])
		if c.want == (api.Plane{}) {
			fails(t, "Through", got, e, api.ErrLarge)
			continue
		}
		same(t, "Through", got, e, c.want)
	}
}

func TestThroughPointsOfOneLine(t *testing.T) {
	const coord, weight = api.MaxCoord, api.MaxWeight
	for _, l := range [][3]api.Point{
		{{1, 2, 3, 4}, {1, 2, 3, 4}, {1, 2, 3, 4}},
		{{1, 2, 3, 4}, {1, 2, 3, 4}, {5, 0, 0, 1}},
		{{1, 2, 3, 4}, {5, 0, 0, 1}, {1, 2, 3, 4}},
		{{5, 0, 0, 1}, {1, 2, 3, 4}, {1, 2, 3, 4}},
		{{0, 0, 0, 1}, {1, 2, 3, 7}, {-3, -6, -9, 11}},
		{{0, 0, 0, 1}, {coord, -coord, coord, 1}, {-coord, coord, -coord, weight - 1}},
		{{coord, 1, -coord, 1}, {0, 1, 0, 1}, {-coord, 1, coord, 1}},
	} {
		got, e := plane.Through(l[0], l[1], l[2])
		fails(t, "Through", got, e, api.ErrNone)
	}
}

// paperThrough is Through by package wide: the plane's coefficients are the minors of the matrix of the three points.
func paperThrough(t *testing.T, q, r, s api.Point) (api.Plane, api.Errno) {
	columns := [4][3]int{{1, 2, 3}, {2, 0, 3}, {0, 1, 3}, {0, 2, 1}}
	var minors [4]string
	by := "0"
	for i, c := range columns {
		var rows [][]int64
		for _, p := range []api.Point{q, r, s} {
			rows = append(rows, []int64{p[c[0]], p[c[1]], p[c[2]]})
		}
		minors[i] = determinant(t, rows...)
		g, e := wide.Gcd(by, minors[i])
		by = value(t, g, e)
	}
	if minors[0] == "0" && minors[1] == "0" && minors[2] == "0" {
		return api.Plane{}, api.ErrNone
	}
	var p api.Plane
	for i, m := range minors {
		n, _, _ := wide.Div(m, by)
		small, fits := wide.ToInt(n)
		if !fits {
			return api.Plane{}, api.ErrLarge
		}
		p[i] = small
	}
	if plane.Check(p) != api.OK {
		return api.Plane{}, api.ErrLarge
	}
	return p, api.OK
}

func TestThroughManyPoints(t *testing.T) {
	r := rolls(5)
	seen := map[api.Errno]int{}
	for i := range 6000 {
		coord, weight := int64(3), int64(2)
		if i%3 == 1 {
			coord, weight = 1000, 50
		}
		if i%3 == 2 {
			coord, weight = api.MaxCoord, api.MaxWeight
		}
		a, b, c := r.point(coord, weight), r.point(coord, weight), r.point(coord, weight)
		want, wantE := paperThrough(t, a, b, c)
		got, e := plane.Through(a, b, c)
		if got != want || e != wantE {
			t.Errorf("Through(%v, %v, %v): %v, error %d, want %v, error %d", a, b, c, got, e, want, wantE)
		}
		seen[e]++
	}
	for _, e := range []api.Errno{api.OK, api.ErrNone, api.ErrLarge} {
		if seen[e] < 10 {
			t.Errorf("only %d of error %d", seen[e], e)
		}
	}
}

// Points that are far out, or have great weights, may lie on a plane that is small.
func TestThroughPointsOfAPlane(t *testing.T) {
	r := rolls(7)
	found := 0
	for range 3000 {
		n := [3]int64{r.within(1000), r.within(1000), r.within(1000)}
		q := r.point(1<<24, 1<<12)
		a, b, c := r.on(n, q), r.on(n, q), r.on(n, q)
		want, wantE := paperThrough(t, a, b, c)
		got, e := plane.Through(a, b, c)
		if got != want || e != wantE {
			t.Errorf("Through(%v, %v, %v): %v, error %d, want %v, error %d", a, b, c, got, e, want, wantE)
		}
		if e == api.OK {
			found++
		}
	}
	for range 3000 {
		p := r.plane()
		n := [3]int64{p[0], p[1], p[2]}
		size := n[0]*n[0] + n[1]*n[1] + n[2]*n[2]
		q := api.Point{-p[0] * p[3], -p[1] * p[3], -p[2] * p[3], size}
		by := divisor(q[:]...)
		for i := range q {
			q[i] /= by
		}
		a, b, c := r.on(n, q), r.on(n, q), r.on(n, q)
		want, wantE := paperThrough(t, a, b, c)
		got, e := plane.Through(a, b, c)
		if got != want || e != wantE || e == api.ErrLarge {
			t.Errorf("Through(%v, %v, %v): %v, error %d, want %v, error %d", a, b, c, got, e, want, wantE)
		}
		if e == api.OK {
			found++
		}
	}
	if found < 2000 {
		t.Errorf("only %d planes", found)
	}
}
