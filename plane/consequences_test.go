package plane_test

import (
	"testing"

	"spokeshave/api"
	"spokeshave/plane"
)

func TestOppositeSides(t *testing.T) {
	r := rolls(19)
	for range 2000 {
		p, q := r.plane(), r.point(api.MaxCoord, api.MaxWeight)
		if r.below(2) == 0 {
			q = api.Point{r.within(2), r.within(2), r.within(2), 1}
		}
		turned, e := plane.Opposite(p)
		side, _ := plane.Side(p, q)
		n, e := plane.Side(value(t, turned, e), q)
		same(t, "Side of the opposite", n, e, -side)
	}
}

func TestShiftThereAndBack(t *testing.T) {
	r := rolls(23)
	there := 0
	for range 3000 {
		p := r.plane()
		v := [3]int64{r.within(2000), r.within(2000), r.within(2000)}
		q, e := plane.Shift(p, v)
		if e != api.OK {
			fails(t, "Shift", q, e, api.ErrLarge)
			continue
		}
		there++
		back, e := plane.Shift(q, [3]int64{-v[0], -v[1], -v[2]})
		same(t, "Shift back", back, e, p)
	}
	if there < 500 {
		t.Errorf("only %d", there)
	}
}

func TestThroughTurned(t *testing.T) {
	r := rolls(29)
	for range 3000 {
		a, b, c := r.point(6, 3), r.point(6, 3), r.point(6, 3)
		p, e := plane.Through(a, b, c)
		for _, l := range [][3]api.Point{{b, c, a}, {c, a, b}} {
			q, f := plane.Through(l[0], l[1], l[2])
			if q != p || f != e {
				t.Errorf("Through in another order: %v, error %d, want %v, error %d", q, f, p, e)
			}
		}
		if e != api.OK {
			continue
		}
		for _, q := range []api.Point{a, b, c} {
			n, e := plane.Side(p, q)
			same(t, "Side of a point that it goes through", n, e, 0)
		}
		for _, l := range [][3]api.Point{{c, b, a}, {b, a, c}, {a, c, b}} {
			q, e := plane.Through(l[0], l[1], l[2])
			same(t, "Through in the turned order", q, e, opposite(p))
		}
	}
}
