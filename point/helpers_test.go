package point_test

import (
	"testing"

	"spokeshave/api"
	"spokeshave/plane"
	"spokeshave/point"
	"spokeshave/ratio"
	"spokeshave/wide"
)

const (
	least    = -1 << 63
	greatest = 1<<63 - 1
	coord    = api.MaxCoord
	weight   = api.MaxWeight
)

// rolls gives numbers that look random and are the same in every run.
type rolls uint64

func (r *rolls) below(n int64) int64 {
	*r = *r*6364136223846793005 + 1442695040888963407
	high := uint64(*r) >> 32
	*r = *r*6364136223846793005 + 1442695040888963407
	return int64((high<<32 | uint64(*r)>>32) % uint64(n))
}

// within gives a number with an absolute value of at most limit, often a small one or one next to the limit.
func (r *rolls) within(limit int64) int64 {
	n := r.below(limit + 1)
	switch r.below(4) {
	case 0:
		n = r.below(min(limit, 4) + 1)
	case 1:
		n = limit - r.below(min(limit, 4)+1)
	}
	if r.below(2) == 0 {
		return -n
	}
	return n
}

func (r *rolls) plane() api.Plane {
	for {
		p, e := plane.Make(r.within(api.MaxNormal), r.within(api.MaxNormal), r.within(api.MaxNormal), r.within(api.MaxOffset))
		if e == api.OK {
			return p
		}
	}
}

// point gives one whose coordinates and weight are within limits.
func (r *rolls) point(coord, weight int64) api.Point {
	return divided(api.Point{r.within(coord), r.within(coord), r.within(coord), max(1, abs(r.within(weight)))})
}

// several gives so many points: in a third of the cases near to each other, in a third far apart, in a third with the greatest numbers.
func (r *rolls) several(n int) []api.Point {
	limits := [3][2]int64{{2, 2}, {1000, 50}, {coord, weight}}[r.below(3)]
	var l []api.Point
	for range n {
		if len(l) > 0 && r.below(8) == 0 {
			l = append(l, l[r.below(int64(len(l)))])
			continue
		}
		l = append(l, r.point(limits[0], limits[1]))
	}
	return l
}

func abs(n int64) int64 {
	return max(n, -n)
}

// divided divides by the greatest common divisor.
func divided(q api.Point) api.Point {
	var by int64
	for _, n := range q {
		for n != 0 {
			by, n = n, by%n
		}
	}
	for i := range q {
		q[i] /= abs(by)
	}
	return q
}

// same checks a result that has no error.
func same[T comparable](t *testing.T, what string, got T, e api.Errno, want T) {
	t.Helper()
	if e != api.OK || got != want {
		t.Errorf("%s: %v, error %d, want %v", what, got, e, want)
	}
}

// fails checks an error, next to which there is no result.
func fails[T comparable](t *testing.T, what string, got T, e, want api.Errno) {
	t.Helper()
	var none T
	if e != want || got != none {
		t.Errorf("%s: %v, error %d, want error %d", what, got, e, want)
	}
}

// agrees checks a result and an error, one of which is as if there were none.
func agrees[T comparable](t *testing.T, what string, got T, e api.Errno, want T, wantE api.Errno) {
	t.Helper()
	if wantE != api.OK {
		fails(t, what, got, e, wantE)
		return
	}
	same(t, what, got, e, want)
}

// value takes what a call returns that has no error.
func value[T any](t *testing.T, got T, e api.Errno) T {
	t.Helper()
	if e != api.OK {
		t.Fatalf("error %d", e)
	}
	return got
}

// ratios are the coordinates of a point, by package ratio.
func ratios(t *testing.T, q api.Point) [3]string {
	t.Helper()
	var l [3]string
	for i := range l {
		s, e := ratio.Make(wide.FromInt(q[i]), wide.FromInt(q[3]))
		l[i] = value(t, s, e)
	}
	return l
}

// paired calls a function of package ratio with the coordinates of two points side by side.
func paired(t *testing.T, call func(a, b string) (string, api.Errno), x, y [3]string) [3]string {
	t.Helper()
	var l [3]string
	for i := range l {
		s, e := call(x[i], y[i])
		l[i] = value(t, s, e)
	}
	return l
}

// between returns the vector that leads from a to b.
func between(t *testing.T, a, b api.Point) [3]string {
	t.Helper()
	return paired(t, ratio.Sub, ratios(t, b), ratios(t, a))
}

// dot is the product of two vectors.
func dot(t *testing.T, x, y [3]string) string {
	t.Helper()
	products := paired(t, ratio.Mul, x, y)
	s, e := ratio.Sum(products[:])
	return value(t, s, e)
}

// cross is the vector product.
func cross(t *testing.T, x, y [3]string) [3]string {
	t.Helper()
	return paired(t, ratio.Sub,
		paired(t, ratio.Mul, [3]string{x[1], x[2], x[0]}, [3]string{y[2], y[0], y[1]}),
		paired(t, ratio.Mul, [3]string{x[2], x[0], x[1]}, [3]string{y[1], y[2], y[0]}))
}

func sign(t *testing.T, a string) int {
	t.Helper()
	n, e := ratio.Cmp(a, "0")
	return value(t, n, e)
}

// with returns the right point with these coordinates: its weight is the least common multiple of their denominators.
func with(t *testing.T, x [3]string) (api.Point, api.Errno) {
	t.Helper()
	whole := "1"
	for _, a := range x {
		_, den, e := ratio.Parts(a)
		by, _ := wide.Gcd(whole, value(t, den, e))
		rest, _, _ := wide.Div(den, by)
		whole, _ = wide.Mul(whole, rest)
	}
	var q api.Point
	for i := range q {
		n := whole
		if i < 3 {
			n, _ = ratio.Mul(x[i], whole)
		}
		small, fits := wide.ToInt(n)
		if !fits {
			return api.Point{}, api.ErrLarge
		}
		q[i] = small
	}
	if q[3] > weight || max(abs(q[0]), abs(q[1]), abs(q[2])) > coord {
		return api.Point{}, api.ErrLarge
	}
	return q, api.OK
}

// wrongPlanes are planes that are not right.
func wrongPlanes() []api.Plane {
	return []api.Plane{
		{}, {0, 0, 0, 1}, {1001, 0, 0, 1}, {1, -1001, 0, 0}, {0, 1, 1001, 0}, {1, 0, 0, 1000001}, {1, 0, 0, -1000001}, {999, 1000, 998, 1000001},
		{2, 0, 0, 0}, {0, -2, 0, 0}, {2, 4, 6, 8}, {0, 7, -7, 7}, {least, 0, 0, 1}, {1, 0, least, 0}, {1, 0, 0, least}, {greatest, 1, 0, 0}, {least, least, least, least},
	}
}

// wrongPoints are points that are not right.
func wrongPoints() []api.Point {
	return []api.Point{
		{}, {1, 2, 3, 0}, {1, 2, 3, -1}, {1, 2, 3, -4}, {0, 0, 0, -1}, {0, 0, 0, 2}, {2, 4, -6, 8}, {3, 3, 0, 3}, {0, 0, 0, weight},
		{coord + 1, 0, 0, 1}, {-coord - 1, 0, 0, 1}, {0, coord + 1, 0, 1}, {0, -coord - 1, 0, 1}, {0, 0, coord + 1, 1}, {0, 0, -coord - 1, 1},
		{1, 0, 0, weight + 1}, {1, 2, 3, greatest}, {1, 2, 3, least}, {least, 0, 0, 1}, {0, least, 1, 1}, {0, 0, least, 1}, {greatest, 0, 0, 1},
		{coord, coord / 2, 0, weight}, {1, 2, 3, 1 << 62}, {least, least, least, least},
	}
}

// rightPoints are small ones, ones with fractions, and ones at the limits.
func rightPoints() []api.Point {
	return []api.Point{
		{0, 0, 0, 1}, {1, 0, 0, 1}, {0, 1, 0, 1}, {0, 0, 1, 1}, {-1, 0, 0, 1}, {1, 0, 0, 2}, {1, 1, 1, 2}, {2, 4, 6, 1}, {6, 10, 15, 30}, {-1, 2, -3, 4},
		{coord, coord, coord, 1}, {-coord, -coord, -coord, 1}, {coord, -coord, coord - 1, 1}, {1, 0, 0, weight}, {0, 0, -1, weight}, {coord - 1, -coord, coord, weight},
		{coord, coord, -coord + 1, weight}, {coord, coord, coord, weight - 1}, {-coord, coord, 0, weight - 1}, {0, 0, coord - 1, weight}, {0, 0, 1, 1 << 32}, {1, 1, 1, weight - 2},
	}
}

// areRight checks that these points are right, so that no test is about other ones by mistake.
func areRight(t *testing.T, l ...api.Point) {
	t.Helper()
	for _, q := range l {
		if e := point.Check(q); e != api.OK {
			t.Fatalf("%v: error %d", q, e)
		}
	}
}
