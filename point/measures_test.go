package point_test

import (
	"testing"

	"spokeshave/api"
	"spokeshave/point"
	"spokeshave/ratio"
)

func TestMiddle(t *testing.T) {
	for _, c := range []struct{ a, b, want api.Point }{
		{api.Point{0, 0, 0, 1}, api.Point{2, 4, -6, 1}, api.Point{1, 2, -3, 1}},
		{api.Point{0, 0, 0, 1}, api.Point{1, 0, 0, 1}, api.Point{1, 0, 0, 2}},
		{api.Point{1, 0, 0, 2}, api.Point{0, 1, 0, 3}, api.Point{3, 2, 0, 12}},
		{api.Point{1, 2, 3, 4}, api.Point{-1, -2, -3, 4}, api.Point{0, 0, 0, 1}},
		{api.Point{1, 2, 3, 4}, api.Point{1, 2, 3, 4}, api.Point{1, 2, 3, 4}},
		{api.Point{coord, coord, coord, 1}, api.Point{coord, coord, coord, 1}, api.Point{coord, coord, coord, 1}},
		{api.Point{coord, coord, coord, weight - 1}, api.Point{coord, coord, coord, weight - 1}, api.Point{coord, coord, coord, weight - 1}},
		{api.Point{coord - 1, -coord, coord, weight}, api.Point{coord - 1, -coord, coord, weight}, api.Point{coord - 1, -coord, coord, weight}},
		{api.Point{coord - 1, -coord, 0, weight}, api.Point{1 - coord, coord, 0, weight}, api.Point{0, 0, 0, 1}},
		{api.Point{coord - 1, 1, 0, weight}, api.Point{coord - 1, -1, 0, weight}, api.Point{coord - 1, 0, 0, weight}},
		{api.Point{coord - 3, 0, 0, weight - 1}, api.Point{coord - 1, 0, 0, weight - 1}, api.Point{(coord - 2) / 7, 0, 0, (weight - 1) / 7}},
		{api.Point{coord - 1, 0, 0, 1}, api.Point{coord - 2, 0, 0, 1}, api.Point{}},
		{api.Point{coord - 1, 0, 0, 1}, api.Point{coord - 3, 0, 0, 1}, api.Point{coord - 2, 0, 0, 1}},
		{api.Point{coord, 0, 0, 1}, api.Point{0, 0, 0, 1}, api.Point{coord / 2, 0, 0, 1}},
		{api.Point{coord, 0, 0, 1}, api.Point{0, 1, 0, 2}, api.Point{}},
		{api.Point{coord / 2, 0, 0, 1}, api.Point{0, 1, 0, 2}, api.Point{coord, 1, 0, 4}},
		{api.Point{coord / 2, 0, 0, 1}, api.Point{0, 1, 0, 1}, api.Point{coord / 2, 1, 0, 2}},
		{api.Point{1, 0, 0, weight}, api.Point{0, 0, 0, 1}, api.Point{}},
		{api.Point{1, 0, 0, weight / 2}, api.Point{0, 0, 0, 1}, api.Point{1, 0, 0, weight}},
		{api.Point{1, 0, 0, weight}, api.Point{1, 0, 0, weight - 1}, api.Point{}},
		{api.Point{coord, coord, coord, weight - 1}, api.Point{coord - 1, -coord, coord, weight}, api.Point{}},
		{api.Point{1, 0, 0, 1 << 17}, api.Point{0, 1, 0, 3}, api.Point{3, 1 << 17, 0, 3 << 18}},
		{api.Point{1, 0, 0, 65535}, api.Point{0, 1, 0, 65536}, api.Point{65536, 65535, 0, 65536 * 65535 * 2}},
		{api.Point{1, 0, 0, 65537}, api.Point{0, 1, 0, 65536}, api.Point{}},
	} {
		areRight(t, c.a, c.b)
		for _, l := range [][2]api.Point{{c.a, c.b}, {c.b, c.a}} {
			got, e := point.Middle(l[0], l[1])
			if c.want == (api.Point{}) {
				fails(t, "Middle", got, e, api.ErrLarge)
				continue
			}
			areRight(t, c.want)
			same(t, "Middle", got, e, c.want)
		}
	}
}

func TestMiddleOfManyPoints(t *testing.T) {
	r := rolls(12)
	seen := map[api.Errno]int{}
	for range 4000 {
		l := r.several(2)
		want, wantE := with(t, paired(t, ratio.Middle, ratios(t, l[0]), ratios(t, l[1])))
		got, e := point.Middle(l[0], l[1])
		agrees(t, "Middle", got, e, want, wantE)
		seen[e]++
	}
	if seen[api.OK] < 1000 || seen[api.ErrLarge] < 500 {
		t.Errorf("too few of one kind: %v", seen)
	}
}

func TestDistance(t *testing.T) {
	for _, c := range []struct {
		a, b api.Point
		want string
	}{
		{api.Point{0, 0, 0, 1}, api.Point{0, 0, 0, 1}, "0"},
		{api.Point{1, 2, 3, 4}, api.Point{1, 2, 3, 4}, "0"},
		{api.Point{0, 0, 0, 1}, api.Point{1, 1, 1, 1}, "3"},
		{api.Point{1, 2, 3, 1}, api.Point{4, -2, 3, 1}, "25"},
		{api.Point{0, 0, 0, 1}, api.Point{1, 0, 0, 2}, "1/4"},
		{api.Point{1, 0, 0, 2}, api.Point{0, 1, 0, 3}, "13/36"},
		{api.Point{3, 1, 0, 5}, api.Point{0, -3, 0, 5}, "1"},
		{api.Point{1, 1, 1, 2}, api.Point{-1, -1, -1, 2}, "3"},
		{api.Point{1, 1, 1, 6}, api.Point{-1, -1, -1, 6}, "1/3"},
		{api.Point{coord, 0, 0, 1}, api.Point{-coord, 0, 0, 1}, "309485009821345068724781056"},
		{api.Point{coord, coord, coord, 1}, api.Point{-coord, -coord, -coord, 1}, "928455029464035206174343168"},
		{api.Point{1, 0, 0, weight}, api.Point{0, 0, 0, 1}, "1/73786976294838206464"},
		{api.Point{1, 0, 0, weight}, api.Point{1, 0, 0, weight - 1}, "1/5444517869467364815259551293706426384384"},
	} {
		areRight(t, c.a, c.b)
		got, e := point.Distance(c.a, c.b)
		same(t, "Distance", got, e, c.want)
	}
}

func TestDistanceOfManyPoints(t *testing.T) {
	r := rolls(13)
	for range 4000 {
		l := r.several(2)
		v := between(t, l[0], l[1])
		want := dot(t, v, v)
		for _, o := range [][2]api.Point{{l[0], l[1]}, {l[1], l[0]}} {
			got, e := point.Distance(o[0], o[1])
			same(t, "Distance", got, e, want)
		}
	}
}

func TestShift(t *testing.T) {
	const far = 1000000
	for _, c := range []struct {
		q    api.Point
		v    [3]int64
		want api.Point
	}{
		{api.Point{1, 2, 3, 4}, [3]int64{}, api.Point{1, 2, 3, 4}},
		{api.Point{1, 2, 3, 4}, [3]int64{1, -1, 2}, api.Point{5, -2, 11, 4}},
		{api.Point{0, 0, 0, 1}, [3]int64{far, -far, far}, api.Point{far, -far, far, 1}},
		{api.Point{1, 1, 1, 2}, [3]int64{-far, far, -1}, api.Point{1 - 2*far, 1 + 2*far, -1, 2}},
		{api.Point{coord - far, far - coord, 0, 1}, [3]int64{far, -far, 0}, api.Point{coord, -coord, 0, 1}},
		{api.Point{coord, 0, 0, 1}, [3]int64{-far, 0, 0}, api.Point{coord - far, 0, 0, 1}},
		{api.Point{coord, 0, 0, 1}, [3]int64{1, 0, 0}, api.Point{}},
		{api.Point{0, -coord, 0, 1}, [3]int64{0, -1, 0}, api.Point{}},
		{api.Point{0, 0, coord - far, 1}, [3]int64{0, 0, far}, api.Point{0, 0, coord, 1}},
		{api.Point{0, 0, coord - far + 1, 1}, [3]int64{0, 0, far}, api.Point{}},
		{api.Point{1, 0, 0, weight}, [3]int64{1023, -1024, 1024}, api.Point{1 + 1023*weight, -coord, coord, weight}},
		{api.Point{1, 0, 0, weight}, [3]int64{1024, 0, 0}, api.Point{}},
		{api.Point{1, 0, 0, weight}, [3]int64{0, 1025, 0}, api.Point{}},
		{api.Point{1, 0, 0, weight}, [3]int64{0, 0, -1025}, api.Point{}},
		{api.Point{1, 0, 0, weight}, [3]int64{far, far, far}, api.Point{}},
		{api.Point{-coord, 0, 1, weight - 1}, [3]int64{-far, -far, -far}, api.Point{}},
		{api.Point{-coord, 0, 1, weight - 1}, [3]int64{2048, 0, 0}, api.Point{2048*(weight-1) - coord, 0, 1, weight - 1}},
	} {
		areRight(t, c.q)
		got, e := point.Shift(c.q, c.v)
		if c.want == (api.Point{}) {
			fails(t, "Shift", got, e, api.ErrLarge)
			continue
		}
		areRight(t, c.want)
		same(t, "Shift", got, e, c.want)
	}
	for _, n := range []int64{far + 1, -far - 1, least, greatest} {
		for i := range 3 {
			v := [3]int64{1, 2, 3}
			v[i] = n
			for _, q := range []api.Point{{1, 2, 3, 4}, {coord, coord, coord, 1}} {
				got, e := point.Shift(q, v)
				fails(t, "Shift", got, e, api.ErrArg)
			}
		}
	}
}

func TestShiftOfManyPoints(t *testing.T) {
	r := rolls(14)
	seen := map[api.Errno]int{}
	for range 4000 {
		q := r.several(1)[0]
		v := [3]int64{r.within(2000), r.within(2000), r.within(2000)}
		want, wantE := with(t, paired(t, ratio.Add, ratios(t, q), ratios(t, api.Point{v[0], v[1], v[2], 1})))
		got, e := point.Shift(q, v)
		agrees(t, "Shift", got, e, want, wantE)
		seen[e]++
		if e != api.OK {
			continue
		}
		back, e := point.Shift(got, [3]int64{-v[0], -v[1], -v[2]})
		same(t, "Shift back", back, e, q)
	}
	if seen[api.OK] < 1000 || seen[api.ErrLarge] < 100 {
		t.Errorf("too few of one kind: %v", seen)
	}
}
