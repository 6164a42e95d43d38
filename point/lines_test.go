package point_test

import (
	"testing"

	"spokeshave/api"
	"spokeshave/plane"
	"spokeshave/point"
	"spokeshave/ratio"
	"spokeshave/wide"
)

func paperOnLine(t *testing.T, a, b, c api.Point) bool {
	t.Helper()
	return cross(t, between(t, a, b), between(t, a, c)) == [3]string{"0", "0", "0"}
}

// paperBetween asks whether the vectors from b to both ends are opposite.
func paperBetween(t *testing.T, a, b, c api.Point) bool {
	t.Helper()
	return paperOnLine(t, a, b, c) && sign(t, dot(t, between(t, b, a), between(t, b, c))) < 0
}

// paperOrient is by the definition.
func paperOrient(t *testing.T, a, b, c, d api.Point) int {
	t.Helper()
	return sign(t, dot(t, between(t, a, b), cross(t, between(t, a, c), between(t, a, d))))
}

// wideOrient is the same by a determinant of package wide.
func wideOrient(t *testing.T, l ...api.Point) int {
	t.Helper()
	m := make([][]string, len(l))
	for i, q := range l {
		for _, n := range []int64{q[3], q[0], q[1], q[2]} {
			m[i] = append(m[i], wide.FromInt(n))
		}
	}
	s, e := wide.Determinant(m)
	return sign(t, value(t, s, e))
}

// pull returns the point a + k / m (b - a), if it is right.
func pull(t *testing.T, a, b api.Point, k, m int64) (api.Point, bool) {
	t.Helper()
	s, e := ratio.Make(wide.FromInt(k), wide.FromInt(m))
	part := value(t, s, e)
	by := paired(t, ratio.Mul, between(t, a, b), [3]string{part, part, part})
	q, e := with(t, paired(t, ratio.Add, ratios(t, a), by))
	return q, e == api.OK
}

func TestOnLineAndBetween(t *testing.T) {
	for _, c := range []struct {
		a, b, c         api.Point
		onLine, between bool
	}{
		{api.Point{0, 0, 0, 1}, api.Point{1, 0, 0, 1}, api.Point{2, 0, 0, 1}, true, true},
		{api.Point{2, 0, 0, 1}, api.Point{1, 0, 0, 1}, api.Point{0, 0, 0, 1}, true, true},
		{api.Point{0, 0, 0, 1}, api.Point{2, 0, 0, 1}, api.Point{1, 0, 0, 1}, true, false},
		{api.Point{1, 0, 0, 1}, api.Point{0, 0, 0, 1}, api.Point{2, 0, 0, 1}, true, false},
		{api.Point{0, 0, 0, 1}, api.Point{0, 0, 0, 1}, api.Point{2, 0, 0, 1}, true, false},
		{api.Point{0, 0, 0, 1}, api.Point{2, 0, 0, 1}, api.Point{2, 0, 0, 1}, true, false},
		{api.Point{2, 0, 0, 1}, api.Point{0, 0, 0, 1}, api.Point{2, 0, 0, 1}, true, false},
		{api.Point{2, 0, 0, 1}, api.Point{2, 0, 0, 1}, api.Point{2, 0, 0, 1}, true, false},
		{api.Point{0, 0, 0, 1}, api.Point{1, 1, 0, 2}, api.Point{1, 1, 0, 1}, true, true},
		{api.Point{0, 0, 0, 1}, api.Point{1, 1, 1, 2}, api.Point{1, 1, 0, 1}, false, false},
		{api.Point{0, 0, 0, 1}, api.Point{0, 1, 0, 3}, api.Point{0, 1, 0, 2}, true, true},
		{api.Point{0, 0, -1, 2}, api.Point{0, 0, 0, 1}, api.Point{0, 0, 1, weight}, true, true},
		{api.Point{0, 0, 1, 2}, api.Point{0, 0, 1, 3}, api.Point{0, 1, 1, 4}, false, false},
		{api.Point{1, 2, 3, 4}, api.Point{0, 0, 0, 1}, api.Point{-2, -4, -6, 1}, true, true},
		{api.Point{1, 2, 3, 4}, api.Point{0, 0, 0, 1}, api.Point{-2, -4, 6, 1}, false, false},
		{api.Point{-coord, -coord, -coord, 1}, api.Point{0, 0, 0, 1}, api.Point{coord, coord, coord, 1}, true, true},
		{api.Point{-coord, -coord, -coord, 1}, api.Point{0, 0, 1, weight}, api.Point{coord, coord, coord, 1}, false, false},
		{api.Point{-coord, coord, -coord, 1}, api.Point{1, -1, 1, weight}, api.Point{coord, -coord, coord, 1}, true, true},
		{api.Point{-coord, coord, -coord, 1}, api.Point{coord, -coord, coord, weight - 1}, api.Point{coord, -coord, coord, 1}, true, true},
		{api.Point{coord, coord, 0, weight - 1}, api.Point{coord - 1, coord - 1, 0, weight - 1}, api.Point{coord - 1, coord - 1, 0, 1}, true, false},
		{api.Point{1, 1, 1, weight}, api.Point{1, 1, 1, weight - 1}, api.Point{1, 1, 1, weight - 2}, true, true},
		{api.Point{1, 1, 1, weight}, api.Point{1, 1, 1, weight - 1}, api.Point{1, 1, 0, weight - 2}, false, false},
		{api.Point{coord, 0, 1, weight - 1}, api.Point{coord - 1, 0, 1, weight}, api.Point{coord - 2, 0, 1, weight}, false, false},
	} {
		areRight(t, c.a, c.b, c.c)
		got, e := point.OnLine(c.a, c.b, c.c)
		same(t, "OnLine", got, e, c.onLine)
		got, e = point.Between(c.a, c.b, c.c)
		same(t, "Between", got, e, c.between)
	}
}

func TestOnLineAndBetweenOfManyPoints(t *testing.T) {
	r := rolls(8)
	lines, inner := 0, 0
	for range 5000 {
		l := r.several(3)
		if r.below(2) == 0 {
			if q, right := pull(t, l[0], l[2], r.within(4), 1+r.below(3)); right {
				l[1] = q
			}
		}
		onLine, e := point.OnLine(l[0], l[1], l[2])
		same(t, "OnLine", onLine, e, paperOnLine(t, l[0], l[1], l[2]))
		between, e := point.Between(l[0], l[1], l[2])
		same(t, "Between", between, e, paperBetween(t, l[0], l[1], l[2]))
		if onLine {
			lines++
		}
		if between {
			inner++
		}
	}
	if lines < 500 || inner < 100 {
		t.Errorf("only %d on a line, %d between", lines, inner)
	}
}

func TestOrient(t *testing.T) {
	o, x, y, z := api.Point{0, 0, 0, 1}, api.Point{1, 0, 0, 1}, api.Point{0, 1, 0, 1}, api.Point{0, 0, 1, 1}
	for _, c := range []struct {
		l    [4]api.Point
		want int
	}{
		{[4]api.Point{o, x, y, z}, 1}, {[4]api.Point{o, y, x, z}, -1}, {[4]api.Point{o, x, z, y}, -1}, {[4]api.Point{x, o, y, z}, -1}, {[4]api.Point{x, y, z, o}, -1}, {[4]api.Point{o, y, z, x}, 1},
		{[4]api.Point{o, x, y, {0, 0, -1, 1}}, -1}, {[4]api.Point{o, x, y, {0, 0, 1, weight}}, 1}, {[4]api.Point{o, x, y, {7, 9, -1, weight}}, -1},
		{[4]api.Point{o, x, y, {1, 1, 0, 2}}, 0}, {[4]api.Point{o, x, y, {coord, -coord, 0, 1}}, 0}, {[4]api.Point{o, x, y, y}, 0}, {[4]api.Point{o, x, o, z}, 0}, {[4]api.Point{x, x, y, z}, 0}, {[4]api.Point{x, x, x, x}, 0},
		{[4]api.Point{o, x, {5, 0, 0, 3}, z}, 0}, {[4]api.Point{x, y, z, {1, 1, 1, 3}}, 0}, {[4]api.Point{x, y, z, {1, 1, 1, 4}}, -1}, {[4]api.Point{x, y, z, {1, 1, 1, 2}}, 1},
		{[4]api.Point{{coord, 0, 0, 1}, {0, coord, 0, 1}, {0, 0, coord, 1}, {1, 1, 1, 3}}, -1},
		{[4]api.Point{{coord, 0, 0, 1}, {0, coord, 0, 1}, {0, 0, coord, 1}, {coord, coord, coord, 1}}, 1},
		{[4]api.Point{{coord, 0, 0, 1}, {0, coord, 0, 1}, {0, 0, coord, 1}, {coord, coord, coord, 3}}, 0},
		{[4]api.Point{{coord, coord, coord, 1}, {-coord, coord, -coord, 1}, {coord, -coord, -coord, 1}, {-coord, -coord, coord, 1}}, 1},
		{[4]api.Point{{coord, coord, coord, weight - 1}, {-coord, coord, -coord, weight - 1}, {coord, -coord, -coord, weight - 1}, {-coord, -coord, coord, weight - 1}}, 1},
		{[4]api.Point{{coord, coord, coord - 1, weight}, {-coord, coord, 1 - coord, weight}, {1 - coord, -coord, coord, weight}, {coord, -coord, 1 - coord, weight}}, -1},
	} {
		areRight(t, c.l[:]...)
		got, e := point.Orient(c.l[0], c.l[1], c.l[2], c.l[3])
		same(t, "Orient", got, e, c.want)
	}
}

func TestOrientOfManyPoints(t *testing.T) {
	r := rolls(9)
	seen := map[int]int{}
	for range 5000 {
		l := r.several(4)
		switch r.below(4) {
		case 0:
			// A point of the plane of the others, from one of them to one between the other two.
			if m, right := pull(t, l[1], l[2], r.within(3), 1+r.below(2)); right {
				l[3], _ = pull(t, l[0], m, r.within(3), 1+r.below(2))
			}
		case 1:
			l[3] = l[r.below(3)]
			l[3][r.below(3)] += 1 - 2*r.below(2)
			l[3] = divided(l[3])
		}
		if point.Check(l[3]) != api.OK {
			continue
		}
		got, e := point.Orient(l[0], l[1], l[2], l[3])
		same(t, "Orient", got, e, paperOrient(t, l[0], l[1], l[2], l[3]))
		same(t, "Orient", got, e, wideOrient(t, l...))
		seen[got]++
	}
	if seen[-1] < 500 || seen[0] < 500 || seen[1] < 500 {
		t.Errorf("too few of one sign: %v", seen)
	}
}

// Points that are as far out as can be, nearly in one plane: the first words of the terms cancel.
func TestOrientOfPointsNearlyInOnePlane(t *testing.T) {
	r := rolls(10)
	small := 0
	for range 3000 {
		k := r.below(1 << 20)
		a, b, c := r.point(coord, weight), r.point(coord, weight), r.point(coord, weight)
		d := api.Point{a[0] + r.within(2), a[1] + r.within(2), a[2] + r.within(2), min(weight, max(1, a[3]+r.within(1)))}
		if k%2 == 0 {
			d = api.Point{a[0]/4 + b[0]/4 + c[0]/4, a[1]/4 + b[1]/4 + c[1]/4, a[2]/4 + b[2]/4 + c[2]/4, max(1, a[3]/4+b[3]/4+c[3]/4)}
		}
		d = divided(d)
		if point.Check(d) != api.OK {
			continue
		}
		got, e := point.Orient(a, b, c, d)
		same(t, "Orient", got, e, wideOrient(t, a, b, c, d))
		small++
	}
	if small < 1500 {
		t.Errorf("only %d", small)
	}
}

// TestOrientIsASide is a part of P4.6.
func TestOrientIsASide(t *testing.T) {
	r := rolls(11)
	compared := 0
	for range 5000 {
		l := r.several(4)
		p, e := plane.Through(l[0], l[1], l[2])
		if e == api.ErrLarge {
			continue
		}
		want := 0
		if e == api.OK {
			want, _ = plane.Side(p, l[3])
			compared++
		}
		got, e := point.Orient(l[0], l[1], l[2], l[3])
		same(t, "Orient", got, e, want)
	}
	if compared < 1000 {
		t.Errorf("only %d", compared)
	}
}
