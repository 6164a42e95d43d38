package line_test

import (
	"testing"

	"spokeshave/api"
	"spokeshave/line"
	"spokeshave/point"
)

func TestExamplesOfTheChapter(t *testing.T) {
	p, q := api.Plane{0, 0, 1, 0}, api.Plane{1, 0, 0, 0}
	d, e := line.Direction(p, q)
	same(t, "Direction", d, e, [3]int64{0, 1, 0})
	n, e := line.Left(p, q, q)
	same(t, "Left", n, e, -1)
	n, e = line.Crosses(p, q, api.Plane{0, 1, 0, -5})
	same(t, "Crosses", n, e, 1)
	n, e = line.Clockwise(p, [3]int64{1, 0, 0}, [][3]int64{{0, 1, 0}, {0, -1, 0}})
	same(t, "Clockwise", n, e, 1)
}

func TestDirection(t *testing.T) {
	for _, c := range []struct {
		p, q api.Plane
		want [3]int64
	}{
		{api.Plane{1, 0, 0, 0}, api.Plane{0, 1, 0, 0}, [3]int64{0, 0, 1}},
		{api.Plane{0, 1, 0, 0}, api.Plane{1, 0, 0, 0}, [3]int64{0, 0, -1}},
		{api.Plane{0, 1, 0, 7}, api.Plane{0, 0, 1, -1000000}, [3]int64{1, 0, 0}},
		{api.Plane{-1, 0, 0, 3}, api.Plane{0, 1, 0, 0}, [3]int64{0, 0, -1}},
		{api.Plane{1000, 0, 0, 1}, api.Plane{0, 0, 1000, 1}, [3]int64{0, -1, 0}},
		{api.Plane{2, 0, 0, 1}, api.Plane{0, 4, 6, 1}, [3]int64{0, -3, 2}},
		{api.Plane{1, 1, 1, 0}, api.Plane{1, 1, -2, 0}, [3]int64{-1, 1, 0}},
		{api.Plane{6, 10, 15, 1}, api.Plane{-6, 10, 15, 1}, [3]int64{0, -3, 2}},
		{api.Plane{1, 2, 3, 0}, api.Plane{1, 2, 4, 0}, [3]int64{2, -1, 0}},
		{api.Plane{1000, 1000, 1, 0}, api.Plane{-1000, 1000, 1, 0}, [3]int64{0, -1, 1000}},
		{api.Plane{1000, 1000, 999, 0}, api.Plane{-1000, 999, 1000, 1}, [3]int64{1, -1000, 1000}},
		{api.Plane{1000, -1000, 1000, 999999}, api.Plane{1000, 1000, -999, 1000000}, [3]int64{-1, 1999, 2000}},
		{api.Plane{999, -1000, 998, 1}, api.Plane{1000, 999, -997, 1}, [3]int64{-2, 1994003, 1998001}},
	} {
		got, e := line.Direction(c.p, c.q)
		same(t, "Direction", got, e, c.want)
		same(t, "the direction by the definition", paperDirection(t, c.p, c.q), api.OK, c.want)
	}
}

// small calls each with all right planes with offset 0 or 1 whose normals have elements from -limit to limit.
func small(limit int64, each func(p api.Plane)) {
	for i := -limit; i <= limit; i++ {
		for j := -limit; j <= limit; j++ {
			for k := -limit; k <= limit; k++ {
				v := [3]int64{i, j, k}
				if v == ([3]int64{}) {
					continue
				}
				each(api.Plane{i, j, k, 1})
				if shortened(v) == v {
					each(api.Plane{i, j, k, 0})
				}
			}
		}
	}
}

func TestDirectionOfSmallPlanes(t *testing.T) {
	small(2, func(p api.Plane) {
		small(1, func(q api.Plane) {
			v := cross(normalOf(p), normalOf(q))
			got, e := line.Direction(p, q)
			if v == ([3]int64{}) {
				fails(t, "Direction of parallel planes", got, e, api.ErrNone)
				return
			}
			same(t, "Direction", got, e, shortened(v))
		})
	})
}

func TestDirectionOfManyPlanes(t *testing.T) {
	r := rolls(1)
	for range 3000 {
		p, q := r.line()
		got, e := line.Direction(p, q)
		same(t, "Direction", got, e, paperDirection(t, p, q))
	}
}

func TestAlong(t *testing.T) {
	x, y, z := api.Plane{1, 0, 0, 0}, api.Plane{0, 1, 0, 0}, api.Plane{0, 0, 1, 0}
	for _, c := range []struct {
		p, q api.Plane
		a, b api.Point
		want int
	}{
		{x, y, api.Point{0, 0, 0, 1}, api.Point{0, 0, 1, 1}, -1},
		{x, y, api.Point{0, 0, 1, 1}, api.Point{0, 0, 0, 1}, 1},
		{x, y, api.Point{0, 0, 1, 1}, api.Point{0, 0, 1, 1}, 0},
		{y, x, api.Point{0, 0, 0, 1}, api.Point{0, 0, 1, 1}, 1},
		{opposite(x), y, api.Point{0, 0, 0, 1}, api.Point{0, 0, 1, 1}, 1},
		{opposite(x), opposite(y), api.Point{0, 0, 0, 1}, api.Point{0, 0, 1, 1}, -1},
		{x, y, api.Point{0, 0, 1, 2}, api.Point{0, 0, 1, 3}, 1},
		{x, y, api.Point{0, 0, -1, 2}, api.Point{0, 0, -1, 3}, -1},
		{x, y, api.Point{0, 0, 1, weight}, api.Point{0, 0, 1, weight - 1}, -1},
		{x, y, api.Point{0, 0, coord, weight - 1}, api.Point{0, 0, coord - 1, weight - 1}, 1},
		{x, y, api.Point{0, 0, coord - 1, weight}, api.Point{0, 0, coord - 3, weight - 1}, -1},
		{x, y, api.Point{0, 0, coord - 1, weight - 1}, api.Point{0, 0, coord, weight - 1}, -1},
		{x, y, api.Point{0, 0, -coord, 1}, api.Point{0, 0, coord, 1}, -1},
		{y, z, api.Point{coord, 0, 0, 1}, api.Point{-coord, 0, 0, 1}, 1},
		{z, x, api.Point{0, 5, 0, 7}, api.Point{0, 3, 0, 4}, -1},
		{api.Plane{1, 0, 0, -3}, api.Plane{0, 2, 0, 1}, api.Point{6, -1, 5, 2}, api.Point{6, -1, 4, 2}, 1},
		{api.Plane{1, -1, 0, 0}, api.Plane{0, 1, -1, 0}, api.Point{1, 1, 1, weight}, api.Point{coord, coord, coord, 1}, -1},
		{api.Plane{1, -1, 0, 0}, api.Plane{0, 1, -1, 0}, api.Point{coord, coord, coord, weight - 1}, api.Point{coord - 1, coord - 1, coord - 1, weight - 1}, 1},
		{api.Plane{1000, 999, 0, 0}, api.Plane{1000, 999, 1, 0}, api.Point{999, -1000, 0, 1}, api.Point{0, 0, 0, 1}, 1},
		{api.Plane{1000, 999, 0, 0}, api.Plane{1000, 999, -1, 0}, api.Point{999, -1000, 0, 1}, api.Point{0, 0, 0, 1}, -1},
	} {
		got, e := line.Along(c.p, c.q, c.a, c.b)
		same(t, "Along", got, e, c.want)
	}
}

func TestAlongOfManyPoints(t *testing.T) {
	r := rolls(2)
	for range 3000 {
		p, q := r.line()
		a, b := r.on(p, q), r.on(p, q)
		got, e := line.Along(p, q, a, b)
		same(t, "Along", got, e, paperAlong(t, p, q, a, b))
		if a != b && got == 0 {
			t.Errorf("%v and %v are not equal", a, b)
		}
		got, e = line.Along(p, q, a, a)
		same(t, "Along of equal points", got, e, 0)
	}
}

// Points on only one of the planes, on none of them, and as near to the line as a point can be.
func TestAlongOfPointsBesideTheLine(t *testing.T) {
	x, y := api.Plane{1, 0, 0, 0}, api.Plane{0, 1, 0, 0}
	on := api.Point{0, 0, 5, 3}
	for _, a := range []api.Point{
		{1, 0, 0, 1}, {0, 1, 0, 1}, {0, -1, 5, 1}, {-1, 0, 5, 1}, {1, 1, 1, 1}, {1, 0, 0, weight}, {0, 1, 0, weight}, {1, 0, coord, weight}, {0, -1, -coord, weight}, {coord, 0, 0, 1}, {0, coord, 0, 1},
	} {
		for _, l := range [][2]api.Point{{a, on}, {on, a}, {a, a}} {
			got, e := line.Along(x, y, l[0], l[1])
			fails(t, "Along", got, e, api.ErrArg)
		}
	}
	r := rolls(3)
	beside := 0
	for range 2000 {
		p, q := r.line()
		a, b := r.on(p, q), r.on(p, q)
		b[r.below(3)] += 1 - 2*r.below(2)
		if point.Check(b) != api.OK || onBoth(t, p, q, b) {
			continue
		}
		got, e := line.Along(p, q, a, b)
		fails(t, "Along", got, e, api.ErrArg)
		got, e = line.Along(p, q, b, a)
		fails(t, "Along", got, e, api.ErrArg)
		beside++
	}
	if beside < 1000 {
		t.Errorf("only %d", beside)
	}
}

func TestCrosses(t *testing.T) {
	x, y, z := api.Plane{1, 0, 0, 0}, api.Plane{0, 1, 0, 0}, api.Plane{0, 0, 1, 0}
	for _, c := range []struct {
		p, q, r api.Plane
		want    int
	}{
		{x, y, z, 1}, {y, x, z, -1}, {x, y, opposite(z), -1}, {opposite(x), y, z, -1}, {opposite(x), opposite(y), z, 1},
		{y, z, x, 1}, {z, x, y, 1}, {x, z, y, -1},
		{x, y, x, 0}, {x, y, y, 0}, {x, y, opposite(y), 0}, {x, y, api.Plane{1, 0, 0, 5}, 0}, {x, y, api.Plane{1, 1, 0, 5}, 0}, {x, y, api.Plane{1, 1, 0, 0}, 0},
		{x, y, api.Plane{1000, 1000, 1, -1000000}, 1}, {x, y, api.Plane{1000, 1000, -1, 1000000}, -1}, {x, y, api.Plane{0, 0, -1000, 1}, -1},
		{api.Plane{1000, -1000, 999, 0}, api.Plane{999, 1000, -1000, 0}, api.Plane{1000, 1000, -1000, 1}, 1},
		{api.Plane{1000, 1000, 999, 0}, api.Plane{-1000, 999, 1000, 1}, api.Plane{1000, 0, 1, 1}, 1},
		{api.Plane{1000, 1000, 999, 0}, api.Plane{-1000, 999, 1000, 1}, api.Plane{1000, 1, 0, 1}, 0},
		{api.Plane{1000, 1000, 999, 0}, api.Plane{-1000, 999, 1000, 1}, api.Plane{999, 1, 0, 1}, -1},
	} {
		got, e := line.Crosses(c.p, c.q, c.r)
		same(t, "Crosses", got, e, c.want)
		same(t, "the sign of the normals' product", paperVolume(t, normalOf(c.p), normalOf(c.q), normalOf(c.r)), api.OK, c.want)
	}
}

func TestCrossesOfManyPlanes(t *testing.T) {
	r := rolls(4)
	seen := map[int]int{}
	for range 500 {
		p, q := r.line()
		for _, s := range r.neighbours(p, q, 8) {
			got, e := line.Crosses(p, q, s)
			same(t, "Crosses", got, e, paperVolume(t, normalOf(p), normalOf(q), normalOf(s)))
			seen[got]++
		}
	}
	if seen[-1] < 300 || seen[0] < 300 || seen[1] < 300 {
		t.Errorf("too few of one sign: %v", seen)
	}
}
