package place_test

import (
	"strings"
	"testing"

	"spokeshave/api"
	"spokeshave/place"
	"spokeshave/plane"
	"spokeshave/point"
	"spokeshave/ratio"
	"spokeshave/wide"
)

// rolls gives numbers that look random and are the same in every run.
type rolls uint64

func (r *rolls) below(n int64) int64 {
	*r = *r*6364136223846793005 + 1442695040888963407
	high := uint64(*r) >> 32
	*r = *r*6364136223846793005 + 1442695040888963407
	return int64((high<<32 | uint64(*r)>>32) % uint64(n))
}

func (r *rolls) within(limit int64) int64 {
	return r.below(2*limit+1) - limit
}

func (r *rolls) plane(normal, offset int64) api.Plane {
	for {
		p, e := plane.Make(r.within(normal), r.within(normal), r.within(normal), r.within(offset))
		if e == api.OK {
			return p
		}
	}
}

// digits gives a number of n digits.
func (r *rolls) digits(n int64) string {
	var b strings.Builder
	for range n {
		b.WriteByte(byte('1' + r.below(9)))
	}
	return b.String()
}

// ratio gives one with so many digits, up to n of them.
func (r *rolls) ratio(t *testing.T, n int64) string {
	t.Helper()
	num := r.digits(1 + r.below(n))
	if r.below(2) == 0 {
		num = "-" + num
	}
	s, e := ratio.Make(num, r.digits(1+r.below(n)))
	return value(t, s, e)
}

// value takes what a call returns that has no error.
func value[T any](t *testing.T, got T, e api.Errno) T {
	t.Helper()
	if e != api.OK {
		t.Fatalf("error %d", e)
	}
	return got
}

// hasSide checks the side of a point that is one.
func hasSide(t *testing.T, p api.Plane, x [3]string, want int) {
	t.Helper()
	q, ok := place.Read(x)
	if got := q.Side(p); !ok || got != want {
		t.Errorf("the side of %v for %v: %d, want %d", x, p, got, want)
	}
}

// sum is A x + B y + C z + D, by package ratio.
func sum(t *testing.T, p api.Plane, x [3]string) string {
	t.Helper()
	l := []string{wide.FromInt(p[3])}
	for i := range x {
		s, e := ratio.Mul(wide.FromInt(p[i]), x[i])
		l = append(l, value(t, s, e))
	}
	s, e := ratio.Sum(l)
	return value(t, s, e)
}

func TestSidesOfRatios(t *testing.T) {
	r := rolls(1)
	for _, n := range []int64{1, 2, 9, 10, 18, 19, 40, 300} {
		for range 200 {
			p, x := r.plane(api.MaxNormal, api.MaxOffset), [3]string{r.ratio(t, n), r.ratio(t, n), r.ratio(t, n)}
			want, e := ratio.Cmp(sum(t, p, x), "0")
			hasSide(t, p, x, value(t, want, e))
		}
	}
}

// Points on planes, and others that are next to them by long numbers.
func TestSidesNextToPlanes(t *testing.T) {
	r := rolls(2)
	for _, n := range []int64{1, 8, 9, 10, 30, 300} {
		for range 100 {
			p := r.plane(api.MaxNormal, api.MaxOffset)
			if p[2] == 0 {
				continue
			}
			x := [3]string{r.ratio(t, n), r.ratio(t, n), "0"}
			z, e := ratio.Div(sum(t, p, x), wide.FromInt(-p[2]))
			x[2] = value(t, z, e)
			hasSide(t, p, x, 0)
			for _, side := range []int{-1, 1} {
				step, e := ratio.Make(wide.FromInt(int64(side)), "1"+strings.Repeat("0", 500))
				z, f := ratio.Add(x[2], value(t, step, e))
				if p[2] < 0 {
					side = -side
				}
				hasSide(t, p, [3]string{x[0], x[1], value(t, z, f)}, side)
			}
		}
	}
}

func TestSidesOfPoints(t *testing.T) {
	r := rolls(3)
	for range 2000 {
		q, e := point.Make(r.within(api.MaxCoord), r.within(api.MaxCoord), r.within(api.MaxCoord), 1+r.below(api.MaxWeight))
		x, f := point.Coordinates(value(t, q, e))
		p := r.plane(api.MaxNormal, api.MaxOffset)
		want, e := plane.Side(p, q)
		hasSide(t, p, value(t, x, f), value(t, want, e))
	}
}

func TestSidesOfTheLongest(t *testing.T) {
	nines, large := strings.Repeat("9", 2000), strings.Repeat("9", 1999)+"8"
	for _, c := range []struct {
		p    api.Plane
		x    [3]string
		want int
	}{
		{api.Plane{1, -1, 0, 0}, [3]string{nines, large, "1/" + nines}, 1},
		{api.Plane{1, -1, 0, 0}, [3]string{large, nines, "1/" + nines}, -1},
		{api.Plane{1, -1, 0, 0}, [3]string{nines, nines, "1/" + nines}, 0},
		{api.Plane{1, 0, 0, -1}, [3]string{nines + "/" + large, "-" + nines + "/" + large, nines}, 1},
		{api.Plane{1, 0, 0, -1}, [3]string{large + "/" + nines, "-" + nines + "/" + large, nines}, -1},
		{api.Plane{1000, -1000, 999, 1000000}, [3]string{"-" + nines, nines, "-" + nines}, -1},
		{api.Plane{1000, -1000, 999, -1000000}, [3]string{nines, "-" + nines, nines}, 1},
		{api.Plane{1000, 1000, 999, 1}, [3]string{"-1/" + nines, "-1/" + large, "-1/" + nines}, 1},
		{api.Plane{1000, 1000, 999, -1}, [3]string{"1/" + nines, "1/" + large, "1/" + nines}, -1},
		{api.Plane{1, 1, 1, 0}, [3]string{"-1/" + nines, "1/" + large, "0"}, 1},
		{api.Plane{1, 1, 1, 0}, [3]string{"1/" + nines, "-1/" + large, "0"}, -1},
	} {
		hasSide(t, c.p, c.x, c.want)
	}
}

func TestReadOfWhatIsNoRatio(t *testing.T) {
	for _, a := range []string{"", "-", "+1", "-0", "01", "1/1", "2/4", "1/0", "1/-2", "x", strings.Repeat("9", 2001), "1/" + strings.Repeat("9", 2001)} {
		for i := range 3 {
			x := [3]string{"1", "-1/2", "0"}
			x[i] = a
			q, ok := place.Read(x)
			if ok || q.Side(api.Plane{1, 1, 1, 1}) != 0 {
				t.Errorf("%q is read", a)
			}
		}
	}
}
