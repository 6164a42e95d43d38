package plane_test

import (
	"testing"

	"spokeshave/api"
	"spokeshave/plane"
)

func TestExamplesOfTheChapter(t *testing.T) {
	p, e := plane.Make(2, 4, 0, -6)
	same(t, "Make(2, 4, 0, -6)", p, e, api.Plane{1, 2, 0, -3})
	n, e := plane.Side(api.Plane{1, 0, 0, -1}, api.Point{1, 0, 0, 2})
	same(t, "Side", n, e, -1)
	p, e = plane.Through(api.Point{0, 0, 0, 1}, api.Point{1, 0, 0, 1}, api.Point{0, 1, 0, 1})
	same(t, "Through", p, e, api.Plane{0, 0, 1, 0})
	p, e = plane.Shown(api.Plane{-1, 0, 2, 5})
	same(t, "Shown", p, e, api.Plane{1, 0, -2, -5})
	p, e = plane.Shift(api.Plane{1, 0, 0, -1}, [3]int64{2, 7, 7})
	same(t, "Shift", p, e, api.Plane{1, 0, 0, -3})
}

func TestCheck(t *testing.T) {
	for _, p := range []api.Plane{
		{1, 0, 0, 0}, {0, -1, 0, 0}, {0, 0, 1, 1000000}, {0, 0, -1, -1000000}, {1000, -1000, 999, 1000000}, {-1000, 0, 0, 999999},
		{2, 0, 0, 1}, {6, 10, 15, 0}, {6, 10, 0, 15}, {0, 999, 0, 1000000}, {1000, 1000, 1000, -999999},
	} {
		if e := plane.Check(p); e != api.OK {
			t.Errorf("Check(%v): error %d", p, e)
		}
	}
	for _, p := range wrongPlanes() {
		if e := plane.Check(p); e != api.ErrPlane {
			t.Errorf("Check(%v): error %d", p, e)
		}
	}
}

// small calls each with all planes of coefficients from -3 to 3, right ones and others.
func small(each func(p api.Plane)) {
	for i := range int64(7 * 7 * 7 * 7) {
		each(api.Plane{i%7 - 3, i/7%7 - 3, i/49%7 - 3, i/343 - 3})
	}
}

func TestSmallPlanes(t *testing.T) {
	small(func(p api.Plane) {
		by := divisor(p[:]...)
		flat := p[0] == 0 && p[1] == 0 && p[2] == 0
		want := api.ErrPlane
		if by == 1 && !flat {
			want = api.OK
		}
		if e := plane.Check(p); e != want {
			t.Errorf("Check(%v): error %d", p, e)
		}
		for _, k := range []int64{1, 2, 12, 1000000007, greatest / 3} {
			got, e := plane.Make(p[0]*k, p[1]*k, p[2]*k, p[3]*k)
			if flat {
				fails(t, "Make", got, e, api.ErrArg)
				continue
			}
			same(t, "Make", got, e, api.Plane{p[0] / by, p[1] / by, p[2] / by, p[3] / by})
		}
	})
}

func TestMakeAtTheLimits(t *testing.T) {
	for _, c := range []struct{ given, want api.Plane }{
		{api.Plane{1000, -1000, 1000, 999999}, api.Plane{1000, -1000, 1000, 999999}},
		{api.Plane{1, 0, 0, 1000000}, api.Plane{1, 0, 0, 1000000}},
		{api.Plane{0, -1, 0, -1000000}, api.Plane{0, -1, 0, -1000000}},
		{api.Plane{2000, 0, 0, 2}, api.Plane{1000, 0, 0, 1}},
		{api.Plane{0, 0, -2, 2000000}, api.Plane{0, 0, -1, 1000000}},
		{api.Plane{least, 0, 0, 0}, api.Plane{-1, 0, 0, 0}},
		{api.Plane{0, least, 0, least}, api.Plane{0, -1, 0, -1}},
		{api.Plane{least, 1 << 62, 1 << 60, -1 << 59}, api.Plane{-16, 8, 2, -1}},
		{api.Plane{0, 0, greatest, -greatest}, api.Plane{0, 0, 1, -1}},
		{api.Plane{greatest / 7 * 3, greatest / 7 * -7, 0, greatest / 7 * 5}, api.Plane{3, -7, 0, 5}},
		{api.Plane{0, 5, 0, 0}, api.Plane{0, 1, 0, 0}},
		{api.Plane{1 << 53, 0, 0, 1 << 33}, api.Plane{}},
		{api.Plane{1001, 0, 0, 1}, api.Plane{}},
		{api.Plane{2002, 0, 0, 2}, api.Plane{}},
		{api.Plane{1, -1001, 0, 0}, api.Plane{}},
		{api.Plane{0, 1, 1001, 0}, api.Plane{}},
		{api.Plane{1, 0, 0, 1000001}, api.Plane{}},
		{api.Plane{3, 0, 0, -3000003}, api.Plane{}},
		{api.Plane{1, 0, 0, least}, api.Plane{}},
		{api.Plane{1, 0, 0, greatest}, api.Plane{}},
		{api.Plane{least, 1, 0, 0}, api.Plane{}},
		{api.Plane{0, least, greatest, 0}, api.Plane{}},
		{api.Plane{least, least, least, 1}, api.Plane{}},
	} {
		got, e := plane.Make(c.given[0], c.given[1], c.given[2], c.given[3])
		if c.want == (api.Plane{}) {
			fails(t, "Make", got, e, api.ErrLarge)
			continue
		}
		same(t, "Make", got, e, c.want)
	}
	for _, d := range []int64{0, 1, -5, 1000001, least, greatest} {
		got, e := plane.Make(0, 0, 0, d)
		fails(t, "Make of no normal", got, e, api.ErrArg)
	}
}

func TestOppositeAndShown(t *testing.T) {
	small(func(p api.Plane) {
		if plane.Check(p) != api.OK {
			got, e := plane.Opposite(p)
			fails(t, "Opposite", got, e, api.ErrPlane)
			got, e = plane.Shown(p)
			fails(t, "Shown", got, e, api.ErrPlane)
			return
		}
		got, e := plane.Opposite(p)
		same(t, "Opposite", got, e, opposite(p))
		want := p
		if p[0] < 0 || p[0] == 0 && (p[1] < 0 || p[1] == 0 && p[2] < 0) {
			want = opposite(p)
		}
		got, e = plane.Shown(p)
		same(t, "Shown", got, e, want)
	})
	for _, p := range wrongPlanes() {
		got, e := plane.Opposite(p)
		fails(t, "Opposite", got, e, api.ErrPlane)
		got, e = plane.Shown(p)
		fails(t, "Shown", got, e, api.ErrPlane)
	}
}
