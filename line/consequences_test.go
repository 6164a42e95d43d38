package line_test

import (
	"testing"

	"spokeshave/api"
	"spokeshave/line"
)

func TestTurnedLines(t *testing.T) {
	r := rolls(14)
	for range 1000 {
		p, q := r.line()
		d, e := line.Direction(p, q)
		value(t, d, e)
		for _, l := range [][2]api.Plane{{q, p}, {opposite(p), q}, {p, opposite(q)}} {
			turned, e := line.Direction(l[0], l[1])
			same(t, "Direction of the turned line", turned, e, scaled(d, -1))
		}
		for _, s := range r.neighbours(p, q, 4) {
			n, e := line.Crosses(p, q, s)
			value(t, n, e)
			m, e := line.Crosses(p, q, opposite(s))
			same(t, "Crosses of the opposite plane", m, e, -n)
			m, e = line.Crosses(q, p, s)
			same(t, "Crosses of the turned line", m, e, -n)
			n, e = line.Left(p, q, s)
			value(t, n, e)
			m, e = line.Left(p, q, opposite(s))
			same(t, "Left of the opposite plane", m, e, -n)
		}
		n, e := line.Left(p, q, q)
		same(t, "Left of p, q and q", n, e, -1)
		n, e = line.Left(p, q, p)
		same(t, "Left of p, q and p", n, e, 0)
		n, e = line.Crosses(p, q, q)
		same(t, "Crosses of p, q and q", n, e, 0)
	}
}

// The points of a list are in order by Along, and the line crosses the planes of the list there.
func TestPointsAreInOrder(t *testing.T) {
	r := rolls(15)
	compared := 0
	for range 300 {
		p, q := r.line()
		l := r.neighbours(p, q, 8)
		points, e := line.Points(p, q, l)
		for i, a := range value(t, points, e) {
			for j, b := range points {
				n, e := line.Along(p, q, a, b)
				want := 0
				switch {
				case i < j:
					want = -1
				case i > j:
					want = 1
				}
				same(t, "Along of points of a list", n, e, want)
				n, e = line.Along(q, p, a, b)
				same(t, "Along of the turned line", n, e, -want)
				compared++
			}
		}
		turned, e := line.Points(q, p, l)
		for i, a := range value(t, turned, e) {
			same(t, "Points of the turned line", a, e, points[len(points)-1-i])
		}
		if len(turned) != len(points) {
			t.Errorf("%d points, on the turned line %d", len(points), len(turned))
		}
	}
	if compared < 2000 {
		t.Errorf("only %d", compared)
	}
}

func TestDirectionsGoRound(t *testing.T) {
	r := rolls(16)
	turned := [4]int{0, 3, 2, 1}
	for range 3000 {
		p := r.plane(api.MaxNormal, api.MaxOffset)
		u := r.direction(p, 1000)
		v := r.direction(p, 1000, u)
		w := r.direction(p, 1000, u, v)
		uv, e := line.Angle(p, u, v)
		value(t, uv, e)
		vu, e := line.Angle(p, v, u)
		same(t, "Angle from v to u", vu, e, turned[uv])
		below, e := line.Angle(opposite(p), u, v)
		same(t, "Angle from below", below, e, turned[uv])
		vw, e := line.Angle(p, v, w)
		value(t, vw, e)
		uw, e := line.Angle(p, u, w)
		value(t, uw, e)
		if uv == 0 && uw != vw || vw == 0 && uw != uv || uv == 2 && vw == 2 && uw != 0 || uv == 2 && vw == 1 && uw != 3 {
			t.Errorf("angles of %v, %v, %v: %d, %d, %d", u, v, w, uv, vw, uw)
		}
		// Less than half a turn from u to v, and from v to w, is not none, and not a whole turn.
		if uv == 1 && vw == 1 && uw == 0 {
			t.Errorf("angles of %v, %v, %v: %d, %d, %d", u, v, w, uv, vw, uw)
		}
	}
}

// The planes of the pencil are those in which no point of the list lies alone: the line does not cross them.
func TestPencilIsNotCrossed(t *testing.T) {
	r := rolls(17)
	for range 500 {
		p, q := r.line()
		l := append(r.neighbours(p, q, 6), p, q, opposite(p), opposite(q))
		pencil, e := line.Pencil(p, q, l)
		for _, i := range value(t, pencil, e) {
			n, e := line.Crosses(p, q, l[i])
			same(t, "Crosses of a plane of the pencil", n, e, 0)
			points, e := line.Points(p, q, []api.Plane{l[i]})
			if e != api.OK || len(points) != 0 {
				t.Errorf("points of a plane of the pencil: %v, error %d", points, e)
			}
		}
		if len(pencil) < 4 {
			t.Errorf("Pencil: %v", pencil)
		}
	}
}
