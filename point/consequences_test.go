package point_test

import (
	"testing"

	"spokeshave/api"
	"spokeshave/plane"
	"spokeshave/point"
	"spokeshave/ratio"
)

func TestPlanesMeetOnAllThree(t *testing.T) {
	r := rolls(15)
	met := 0
	for range 4000 {
		l := [3]api.Plane{r.plane(), r.plane(), r.plane()}
		q, e := point.Meet(l[0], l[1], l[2])
		if e == api.ErrNone {
			continue
		}
		met++
		for _, p := range l {
			n, f := plane.Side(p, value(t, q, e))
			same(t, "Side of a plane that meets in the point", n, f, 0)
		}
	}
	if met < 2000 {
		t.Errorf("only %d points", met)
	}
}

func TestOrientOfExchangedPoints(t *testing.T) {
	r := rolls(16)
	for range 4000 {
		l := r.several(4)
		n, e := point.Orient(l[0], l[1], l[2], l[3])
		value(t, n, e)
		for i := range 4 {
			for j := range i {
				l[i], l[j] = l[j], l[i]
				got, e := point.Orient(l[0], l[1], l[2], l[3])
				same(t, "Orient of exchanged points", got, e, -n)
				l[i], l[j] = l[j], l[i]
			}
		}
	}
}

func TestBetweenIsInOrder(t *testing.T) {
	r := rolls(17)
	found := 0
	for range 4000 {
		l := r.several(2)
		a, c := l[0], l[1]
		b, right := pull(t, a, c, 1+r.below(3), 4)
		if a == c || !right {
			continue
		}
		found++
		yes, e := point.Between(a, b, c)
		same(t, "Between", yes, e, true)
		yes, e = point.Between(c, b, a)
		same(t, "Between, turned", yes, e, true)
		n, e := point.Cmp(a, b)
		m, f := point.Cmp(b, c)
		if value(t, n, e) != value(t, m, f) || n == 0 {
			t.Errorf("%v, %v, %v are not in order: %d, %d", a, b, c, n, m)
		}
		for _, o := range [][3]api.Point{{b, a, c}, {a, c, b}, {a, a, c}, {a, c, c}, {c, b, c}} {
			yes, e := point.Between(o[0], o[1], o[2])
			same(t, "Between of others", yes, e, false)
		}
	}
	if found < 1000 {
		t.Errorf("only %d", found)
	}
}

func TestHalvesAreEqual(t *testing.T) {
	r := rolls(18)
	found := 0
	for range 4000 {
		l := r.several(2)
		m, e := point.Middle(l[0], l[1])
		if e == api.ErrLarge {
			continue
		}
		found++
		whole, e := point.Distance(l[0], l[1])
		quarter, f := ratio.Div(value(t, whole, e), "4")
		value(t, quarter, f)
		for _, q := range l {
			half, e := point.Distance(q, m)
			same(t, "Distance to the middle", half, e, quarter)
		}
		between, e := point.Between(l[0], m, l[1])
		same(t, "Between of the middle", between, e, l[0] != l[1])
	}
	if found < 1000 {
		t.Errorf("only %d", found)
	}
}
