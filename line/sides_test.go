package line_test

import (
	"testing"

	"spokeshave/api"
	"spokeshave/line"
	"spokeshave/plane"
)

func TestLeft(t *testing.T) {
	x, y, z := api.Plane{1, 0, 0, 0}, api.Plane{0, 1, 0, 0}, api.Plane{0, 0, 1, 0}
	for _, c := range []struct {
		p, q, r api.Plane
		want    int
	}{
		// From above, the line of z = 0 and x = 0 leads along y: x becomes less to the left.
		{z, x, x, -1}, {z, x, opposite(x), 1}, {z, x, api.Plane{1, 0, 0, -99}, -1}, {z, x, api.Plane{3, 5, 7, 1}, -1}, {z, x, api.Plane{-1, 1000, 1000, 0}, 1},
		{z, x, z, 0}, {z, x, opposite(z), 0}, {z, x, y, 0}, {z, x, api.Plane{0, 1, 1, 5}, 0},
		// It leads the other way, and x becomes greater; from below it leads the other way too, and left is where right was.
		{z, opposite(x), x, 1}, {opposite(z), x, x, -1}, {opposite(z), opposite(x), x, 1},
		{x, y, y, -1}, {x, y, z, 0}, {y, x, x, -1}, {y, x, y, 0}, {y, z, z, -1},
		{api.Plane{1, 1, 0, 0}, x, y, 1}, {api.Plane{1, -1, 0, 0}, x, y, -1}, {api.Plane{1, 1, 0, 0}, x, x, -1},
		{api.Plane{1000, 999, 998, 1}, api.Plane{1000, 999, 997, 1}, api.Plane{1000, 999, 997, 5}, -1},
		{api.Plane{1000, 999, 998, 1}, api.Plane{1000, 999, 997, 1}, api.Plane{1000, 999, 999, 5}, 1},
		{api.Plane{1000, 999, 998, 1}, api.Plane{1000, 999, 997, 1}, api.Plane{1000, 999, 998, 5}, 0},
		{api.Plane{1000, -1000, 999, 1}, api.Plane{999, 1000, -1000, 1}, api.Plane{-1000, 1000, -1000, 7}, -1},
		{api.Plane{1000, -1000, 999, 1}, api.Plane{999, 1000, -1000, 1}, api.Plane{-1000, 1000, -999, 7}, 0},
	} {
		got, e := line.Left(c.p, c.q, c.r)
		same(t, "Left", got, e, c.want)
		same(t, "the side by the definition", paperLeft(t, c.p, c.q, c.r), api.OK, c.want)
	}
}

// paperLeft is the sign of r along the vector product of the normal of p and the direction.
func paperLeft(t *testing.T, p, q, r api.Plane) int {
	t.Helper()
	return paperVolume(t, normalOf(p), paperDirection(t, p, q), normalOf(r))
}

func TestLeftOfManyPlanes(t *testing.T) {
	r := rolls(7)
	seen := map[int]int{}
	for range 500 {
		p, q := r.line()
		for _, s := range append(r.neighbours(p, q, 8), p, opposite(p), opposite(q)) {
			got, e := line.Left(p, q, s)
			same(t, "Left", got, e, paperLeft(t, p, q, s))
			seen[got]++
		}
	}
	if seen[-1] < 300 || seen[0] < 300 || seen[1] < 300 {
		t.Errorf("too few of one sign: %v", seen)
	}
}

// All planes contain the origin. From there one goes on p to the left of the line: in any direction, or at a right angle.
func TestLeftIsASideOfPoints(t *testing.T) {
	r := rolls(8)
	found, aslant := 0, 0
	for range 3000 {
		p, q, s := r.plane(3, 0), r.plane(3, 0), r.plane(3, 0)
		d, e := line.Direction(p, q)
		if e != api.OK {
			continue
		}
		for _, v := range [][3]int64{r.direction(p, 30, d), cross(normalOf(p), d)} {
			turn, e := line.Angle(p, d, v)
			if value(t, turn, e) != 1 {
				continue
			}
			found++
			hasSide(t, p, q, q, v)
			crosses, e := line.Crosses(p, q, s)
			// What is not parallel to the line changes along it too.
			if value(t, crosses, e) == 0 || v == cross(normalOf(p), d) {
				hasSide(t, p, q, s, v)
				aslant += crosses * crosses
			}
		}
	}
	if found < 1000 || aslant < 500 {
		t.Errorf("only %d, %d not parallel", found, aslant)
	}
}

// hasSide checks that Left tells the side of r on which the point v is, which lies to the left of the line.
func hasSide(t *testing.T, p, q, r api.Plane, v [3]int64) {
	t.Helper()
	side, e := plane.Side(r, api.Point{v[0], v[1], v[2], 1})
	n, f := line.Left(p, q, r)
	same(t, "Left", n, f, value(t, side, e))
}
