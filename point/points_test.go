package point_test

import (
	"testing"

	"spokeshave/api"
	"spokeshave/plane"
	"spokeshave/point"
	"spokeshave/ratio"
)

func TestExamplesOfTheChapter(t *testing.T) {
	q, e := point.Make(2, 4, -6, -8)
	same(t, "Make(2, 4, -6, -8)", q, e, api.Point{-1, -2, 3, 4})
	q, e = point.Meet(api.Plane{1, 0, 0, -1}, api.Plane{0, 1, 0, -2}, api.Plane{0, 0, 1, -3})
	same(t, "Meet of x = 1, y = 2, z = 3", q, e, api.Point{1, 2, 3, 1})
	q, e = point.Meet(api.Plane{2, 0, 0, -1}, api.Plane{1, 1, 0, -1}, api.Plane{0, 0, 1, 0})
	same(t, "Meet of 2 x = 1, x + y = 1, z = 0", q, e, api.Point{1, 1, 0, 2})
	s, e := point.Distance(api.Point{0, 0, 0, 1}, api.Point{1, 0, 0, 2})
	same(t, "Distance", s, e, "1/4")
	n, e := point.Orient(api.Point{0, 0, 0, 1}, api.Point{1, 0, 0, 1}, api.Point{0, 1, 0, 1}, api.Point{0, 0, 1, 1})
	same(t, "Orient", n, e, 1)
}

func TestCheck(t *testing.T) {
	for _, q := range rightPoints() {
		if e := point.Check(q); e != api.OK {
			t.Errorf("Check(%v): error %d", q, e)
		}
	}
	for _, q := range wrongPoints() {
		if e := point.Check(q); e != api.ErrPoint {
			t.Errorf("Check(%v): error %d", q, e)
		}
	}
}

// small calls each with all numbers from -3 to 3.
func small(each func(x, y, z, w int64)) {
	for i := range int64(7 * 7 * 7 * 7) {
		each(i%7-3, i/7%7-3, i/49%7-3, i/343-3)
	}
}

func TestSmallPoints(t *testing.T) {
	small(func(x, y, z, w int64) {
		want := api.ErrPoint
		if w > 0 && divided(api.Point{x, y, z, w}) == (api.Point{x, y, z, w}) {
			want = api.OK
		}
		if e := point.Check(api.Point{x, y, z, w}); e != want {
			t.Errorf("Check(%d, %d, %d, %d): error %d", x, y, z, w, e)
		}
		for _, k := range []int64{1, -1, 2, -12, 1000000007, greatest / 3, -(greatest / 3)} {
			got, e := point.Make(x*k, y*k, z*k, w*k)
			if w == 0 {
				fails(t, "Make with the weight 0", got, e, api.ErrZero)
				continue
			}
			turn := w / abs(w)
			same(t, "Make", got, e, divided(api.Point{x * turn, y * turn, z * turn, w * turn}))
		}
	})
}

func TestMakeAtTheLimits(t *testing.T) {
	for _, c := range []struct{ given, want api.Point }{
		{api.Point{coord, -coord, coord, 1}, api.Point{coord, -coord, coord, 1}},
		{api.Point{coord, -coord, coord, -1}, api.Point{-coord, coord, -coord, 1}},
		{api.Point{1, 2, 3, weight}, api.Point{1, 2, 3, weight}},
		{api.Point{1, 2, 3, -weight}, api.Point{-1, -2, -3, weight}},
		{api.Point{coord, coord, coord - 1, weight}, api.Point{coord, coord, coord - 1, weight}},
		{api.Point{coord * 3, 0, coord * 6, 3}, api.Point{}},
		{api.Point{coord * 3, 0, -coord * 3, 3}, api.Point{coord, 0, -coord, 1}},
		{api.Point{3, 3, 6, weight * 3}, api.Point{1, 1, 2, weight}},
		{api.Point{coord * 1000, coord * 999, -coord * 1000, -1000 * weight}, api.Point{-128000, -127872, 128000, 125}},
		{api.Point{coord * 1000, coord*1000 - 1000, 0, -1000 * weight}, api.Point{-coord, 1 - coord, 0, weight}},
		{api.Point{0, 0, 0, least}, api.Point{0, 0, 0, 1}},
		{api.Point{0, 0, 0, greatest}, api.Point{0, 0, 0, 1}},
		{api.Point{least, least, least, least}, api.Point{1, 1, 1, 1}},
		{api.Point{least, 0, 1 << 62, least}, api.Point{2, 0, -1, 2}},
		{api.Point{1 << 62, 1 << 61, -1 << 60, least}, api.Point{-4, -2, 1, 8}},
		{api.Point{least, 0, 0, 1 << 62}, api.Point{-2, 0, 0, 1}},
		{api.Point{least, 0, 0, -1 << 20}, api.Point{coord, 0, 0, 1}},
		{api.Point{greatest, -greatest, 0, -greatest}, api.Point{-1, 1, 0, 1}},
		{api.Point{greatest / 7 * 3, greatest / 7 * -7, 0, greatest / 7 * 5}, api.Point{3, -7, 0, 5}},
		{api.Point{1 << 53, 0, 0, least}, api.Point{-1, 0, 0, 1 << 10}},
		{api.Point{1 << 30, 0, 0, least}, api.Point{-1, 0, 0, weight}},
		{api.Point{1 << 29, 0, 0, least}, api.Point{}},
		{api.Point{1 << 30, 1, 0, least}, api.Point{}},
		{api.Point{coord + 1, 0, 0, 1}, api.Point{}},
		{api.Point{0, -coord - 1, 0, 1}, api.Point{}},
		{api.Point{0, 0, coord + 1, -1}, api.Point{}},
		{api.Point{0, 0, 2*coord + 2, 2}, api.Point{}},
		{api.Point{1, 0, 0, weight + 1}, api.Point{}},
		{api.Point{1, 0, 0, -weight - 1}, api.Point{}},
		{api.Point{0, 2, 0, 2*weight + 2}, api.Point{}},
		{api.Point{least, 0, 0, 1}, api.Point{}},
		{api.Point{least, 0, 0, -1}, api.Point{}},
		{api.Point{0, greatest, 0, 1}, api.Point{}},
		{api.Point{0, 0, 1, least}, api.Point{}},
		{api.Point{0, 0, 1, greatest}, api.Point{}},
		{api.Point{least, least, least, greatest}, api.Point{}},
	} {
		got, e := point.Make(c.given[0], c.given[1], c.given[2], c.given[3])
		if c.want == (api.Point{}) {
			fails(t, "Make", got, e, api.ErrLarge)
			continue
		}
		areRight(t, c.want)
		same(t, "Make", got, e, c.want)
	}
	for _, n := range []int64{0, 1, -5, least, greatest} {
		got, e := point.Make(n, n, -n, 0)
		fails(t, "Make with the weight 0", got, e, api.ErrZero)
	}
}

func TestMakeOfAnyNumbers(t *testing.T) {
	r := rolls(2)
	seen := map[api.Errno]int{}
	for range 4000 {
		k := 1 + r.below(1<<20)
		if r.below(2) == 0 {
			k = -k
		}
		x, y, z, w := r.within(2*coord), r.within(2*coord), r.within(coord), 1+r.below(weight+weight/2)
		var l [3]string
		for i, n := range []int64{x, y, z} {
			l[i] = ratios(t, api.Point{n, 0, 0, w})[0]
		}
		want, wantE := with(t, l)
		k = k % (greatest / max(2*coord, 2*weight))
		got, e := point.Make(x*k, y*k, z*k, w*k)
		if k == 0 {
			wantE = api.ErrZero
		}
		agrees(t, "Make", got, e, want, wantE)
		seen[e]++
	}
	if seen[api.OK] < 500 || seen[api.ErrLarge] < 500 {
		t.Errorf("too few of one kind: %v", seen)
	}
}

func TestMeet(t *testing.T) {
	const most, far = api.MaxNormal, api.MaxOffset
	for _, c := range []struct {
		l    [3]api.Plane
		want api.Point
	}{
		{[3]api.Plane{{1, 0, 0, 0}, {0, 1, 0, 0}, {0, 0, 1, 0}}, api.Point{0, 0, 0, 1}},
		{[3]api.Plane{{-1, 0, 0, 5}, {0, 2, 0, 1}, {0, 0, 3, -1}}, api.Point{30, -3, 2, 6}},
		{[3]api.Plane{{1, 1, 1, -1}, {1, -1, 0, 0}, {0, 1, -1, 0}}, api.Point{1, 1, 1, 3}},
		{[3]api.Plane{{1, 0, 0, -far}, {0, 1, 0, far}, {0, 0, -1, far}}, api.Point{far, -far, far, 1}},
		{[3]api.Plane{{most, 0, 0, -1}, {0, most, 0, 1}, {0, 0, most, 7}}, api.Point{1, -1, -7, most}},
		{[3]api.Plane{{most, most - 1, 0, -far}, {most - 1, most - 2, 0, far}, {0, 0, 1, -far}}, api.Point{-1997 * far, 1999 * far, far, 1}},
	} {
		areRight(t, c.want)
		for _, o := range [][3]int{{0, 1, 2}, {1, 2, 0}, {2, 0, 1}, {2, 1, 0}, {1, 0, 2}, {0, 2, 1}} {
			got, e := point.Meet(c.l[o[0]], c.l[o[1]], c.l[o[2]])
			same(t, "Meet", got, e, c.want)
		}
	}
}

func TestMeetOfPlanesWithoutOneCommonPoint(t *testing.T) {
	for _, l := range [][3]api.Plane{
		{{1, 2, 3, 4}, {1, 2, 3, 4}, {1, 0, 0, 0}},
		{{1, 2, 3, 4}, {-1, -2, -3, -4}, {1, 0, 0, 0}},
		{{1, 2, 3, 4}, {1, 2, 3, 5}, {1, 0, 0, 0}},
		{{1, 2, 3, 4}, {-1, -2, -3, 5}, {1, 0, 0, 0}},
		{{1, 2, 3, 4}, {2, 4, 6, 5}, {1, 0, 0, 0}},
		{{1, 2, 3, 4}, {1, 2, 3, 4}, {1, 2, 3, 4}},
		{{1, 2, 3, 4}, {1, 2, 3, 5}, {-1, -2, -3, 6}},
		{{1, 0, 0, 0}, {0, 1, 0, 0}, {1, 1, 0, 0}},
		{{1, 0, 0, 0}, {0, 1, 0, 0}, {1, 1, 0, -1}},
		{{1, 0, 0, -1}, {0, 1, 0, -1}, {1, -1, 0, 0}},
		{{1000, 999, 998, 1000000}, {998, 999, 1000, 1000000}, {999, 999, 999, 1000000}},
		{{500, -1000, 1, 499999}, {500, 1000, -1000, 500001}, {1000, 0, -999, 1000000}},
		{{500, -1000, 1, 499999}, {500, 1000, -1000, 500001}, {1000, 0, -999, -1000000}},
	} {
		for _, o := range [][3]int{{0, 1, 2}, {1, 2, 0}, {2, 0, 1}, {2, 1, 0}, {1, 0, 2}, {0, 2, 1}} {
			got, e := point.Meet(l[o[0]], l[o[1]], l[o[2]])
			fails(t, "Meet", got, e, api.ErrNone)
		}
	}
}

func TestMeetOfManyPlanes(t *testing.T) {
	r := rolls(3)
	met := 0
	for range 5000 {
		p, q, s := r.plane(), r.plane(), r.plane()
		if r.below(4) == 0 {
			// All planes of one line: a sum of multiples of two of them.
			k, m := r.within(3), r.within(3)
			sum, e := plane.Make(k*p[0]+m*q[0], k*p[1]+m*q[1], k*p[2]+m*q[2], k*p[3]+m*q[3])
			if e == api.OK {
				got, e := point.Meet(p, q, sum)
				fails(t, "Meet of planes of one line", got, e, api.ErrNone)
			}
		}
		want, wantE := paperMeet(t, p, q, s)
		got, e := point.Meet(p, q, s)
		agrees(t, "Meet", got, e, want, wantE)
		if e == api.OK {
			areRight(t, got)
			met++
		}
	}
	if met < 3000 {
		t.Errorf("only %d points", met)
	}
}

// The greatest numbers that occur in a point come from coefficients that are all as great as they may be.
func TestMeetOfPlanesWithTheGreatestCoefficients(t *testing.T) {
	r := rolls(5)
	l := []api.Plane{{1000, 1000, 1000, 999999}, {-1000, 1000, 1000, 999999}, {1000, -1000, 1000, 999999}, {1000, 1000, -1000, 999999}}
	for len(l) < 24 {
		p := api.Plane{1000 - r.below(4), 1000 - r.below(4), 1000 - r.below(4), 1000000 - r.below(4)}
		for k := range p {
			p[k] *= 1 - 2*r.below(2)
		}
		if plane.Check(p) == api.OK {
			l = append(l, p)
		}
	}
	var top int64
	for i, p := range l {
		for j, q := range l[:i] {
			for _, s := range l[:j] {
				want, wantE := paperMeet(t, p, q, s)
				got, e := point.Meet(p, q, s)
				agrees(t, "Meet", got, e, want, wantE)
				top = max(top, abs(got[0]), abs(got[1]), abs(got[2]))
			}
		}
	}
	if top < 3_900_000_000_000 {
		t.Errorf("no coordinate greater than %d", top)
	}
}

// paperMeet divides the sum of the vector products, times the offsets, by the product of all normals.
func paperMeet(t *testing.T, p, q, r api.Plane) (api.Point, api.Errno) {
	t.Helper()
	var sum [3]string
	normal := func(p api.Plane) [3]string { return ratios(t, api.Point{p[0], p[1], p[2], 1}) }
	whole := dot(t, normal(p), cross(t, normal(q), normal(r)))
	if whole == "0" {
		return api.Point{}, api.ErrNone
	}
	for i := range sum {
		sum[i] = "0"
	}
	for _, l := range [][3]api.Plane{{p, q, r}, {q, r, p}, {r, p, q}} {
		off, e := ratio.Make(ratios(t, api.Point{-l[0][3], 0, 0, 1})[0], whole)
		part := cross(t, normal(l[1]), normal(l[2]))
		for i := range sum {
			term, _ := ratio.Mul(part[i], value(t, off, e))
			sum[i], _ = ratio.Add(sum[i], term)
		}
	}
	return with(t, sum)
}

func TestCoordinates(t *testing.T) {
	for _, c := range []struct {
		q    api.Point
		want [3]string
	}{
		{api.Point{0, 0, 0, 1}, [3]string{"0", "0", "0"}},
		{api.Point{1, -2, 3, 1}, [3]string{"1", "-2", "3"}},
		{api.Point{0, 1, -1, 2}, [3]string{"0", "1/2", "-1/2"}},
		{api.Point{6, 10, 15, 30}, [3]string{"1/5", "1/3", "1/2"}},
		{api.Point{-60, 31, 30, 30}, [3]string{"-2", "31/30", "1"}},
		{api.Point{coord, -coord, 1, 1}, [3]string{"8796093022208", "-8796093022208", "1"}},
		{api.Point{coord, -1, 0, weight}, [3]string{"1024", "-1/8589934592", "0"}},
		{api.Point{-coord, coord - 1, 1, weight}, [3]string{"-1024", "8796093022207/8589934592", "1/8589934592"}},
	} {
		got, e := point.Coordinates(c.q)
		same(t, "Coordinates", got, e, c.want)
	}
	r := rolls(4)
	for range 3000 {
		q := r.several(1)[0]
		got, e := point.Coordinates(q)
		same(t, "Coordinates", got, e, ratios(t, q))
		for _, s := range got {
			if !ratio.Is(s) {
				t.Errorf("%s is not a ratio", s)
			}
		}
		back, e := with(t, got)
		same(t, "the point of the coordinates", back, e, q)
	}
}
