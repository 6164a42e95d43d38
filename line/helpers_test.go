package line_test

import (
	"testing"

	"spokeshave/api"
	"spokeshave/plane"
	"spokeshave/point"
	"spokeshave/ratio"
	"spokeshave/wide"
)

const (
	least    = -1 << 63
	greatest = 1<<63 - 1
	coord    = api.MaxCoord
	weight   = api.MaxWeight
	longest  = 2000000
)

// rolls gives numbers that look random and are the same in every run.
type rolls uint64

func (r *rolls) below(n int64) int64 {
	*r = *r*6364136223846793005 + 1442695040888963407
	high := uint64(*r) >> 32
	*r = *r*6364136223846793005 + 1442695040888963407
	return int64((high<<32 | uint64(*r)>>32) % uint64(n))
}

// within gives a number with an absolute value of at most limit, often a small one or one next to the limit.
func (r *rolls) within(limit int64) int64 {
	n := r.below(limit + 1)
	switch r.below(4) {
	case 0:
		n = r.below(min(limit, 4) + 1)
	case 1:
		n = limit - r.below(min(limit, 4)+1)
	}
	if r.below(2) == 0 {
		return -n
	}
	return n
}

// plane gives one whose normal and offset are within limits.
func (r *rolls) plane(normal, offset int64) api.Plane {
	for {
		p, e := plane.Make(r.within(normal), r.within(normal), r.within(normal), r.within(offset))
		if e == api.OK {
			return p
		}
	}
}

// line gives two planes that are not parallel: in half of the cases with small coefficients.
func (r *rolls) line() (p, q api.Plane) {
	normal, offset := int64(api.MaxNormal), int64(api.MaxOffset)
	if r.below(2) == 0 {
		normal, offset = 2, 3
	}
	for {
		p, q = r.plane(normal, offset), r.plane(normal, offset)
		if cross(normalOf(p), normalOf(q)) != [3]int64{} {
			return p, q
		}
	}
}

// combined gives k p + m q, if it is right: a plane of the same pencil, or the zero value.
func combined(p, q api.Plane, k, m int64) api.Plane {
	s, _ := plane.Make(k*p[0]+m*q[0], k*p[1]+m*q[1], k*p[2]+m*q[2], k*p[3]+m*q[3])
	return s
}

// neighbours gives planes that lie in many ways to the line of p and q: in its pencil, parallel to it, through one of its points, and others.
func (r *rolls) neighbours(p, q api.Plane, n int) []api.Plane {
	var l []api.Plane
	for len(l) < n {
		s := r.plane(3, 4)
		switch r.below(5) {
		case 0:
			s = combined(p, q, r.within(2), r.within(2))
		case 1:
			s = combined(p, q, r.within(2), r.within(2))
			s[3] += r.within(2)
		case 2:
			if len(l) > 0 {
				s = combined(l[r.below(int64(len(l)))], p, r.within(2), r.within(2))
			}
		case 3:
			s = r.plane(api.MaxNormal, api.MaxOffset)
		}
		if plane.Check(s) == api.OK {
			l = append(l, s)
		}
	}
	return l
}

// on gives a point of the line of p and q.
func (r *rolls) on(p, q api.Plane) api.Point {
	for {
		a, e := point.Meet(p, q, r.plane(api.MaxNormal, api.MaxOffset))
		if e == api.OK {
			return a
		}
	}
}

// direction gives one in p, at a right angle to a vector within top, or a multiple of one of l: often one that is short.
func (r *rolls) direction(p api.Plane, top int64, l ...[3]int64) [3]int64 {
	for {
		limit := min(top, [...]int64{1, 3, 30, 1000}[r.below(4)])
		v := cross(normalOf(p), [3]int64{r.within(limit), r.within(limit), r.within(limit)})
		if len(l) > 0 && r.below(3) == 0 {
			v = scaled(l[r.below(int64(len(l)))], r.within(3))
		}
		if r.below(3) == 0 {
			v = shortened(v)
		}
		if v != ([3]int64{}) && max(abs(v[0]), abs(v[1]), abs(v[2])) <= longest {
			return v
		}
	}
}

func abs(n int64) int64 {
	return max(n, -n)
}

func normalOf(p api.Plane) [3]int64 {
	return [3]int64{p[0], p[1], p[2]}
}

func opposite(p api.Plane) api.Plane {
	return api.Plane{-p[0], -p[1], -p[2], -p[3]}
}

func scaled(v [3]int64, k int64) [3]int64 {
	return [3]int64{v[0] * k, v[1] * k, v[2] * k}
}

func cross(u, v [3]int64) [3]int64 {
	return [3]int64{u[1]*v[2] - u[2]*v[1], u[2]*v[0] - u[0]*v[2], u[0]*v[1] - u[1]*v[0]}
}

// shortened divides by the greatest common divisor.
func shortened(v [3]int64) [3]int64 {
	var by int64
	for _, n := range v {
		for n != 0 {
			by, n = n, by%n
		}
	}
	if by == 0 {
		return v
	}
	return [3]int64{v[0] / abs(by), v[1] / abs(by), v[2] / abs(by)}
}

// same checks a result that has no error.
func same[T comparable](t *testing.T, what string, got T, e api.Errno, want T) {
	t.Helper()
	if e != api.OK || got != want {
		t.Errorf("%s: %v, error %d, want %v", what, got, e, want)
	}
}

// fails checks an error, next to which there is no result.
func fails[T comparable](t *testing.T, what string, got T, e, want api.Errno) {
	t.Helper()
	var none T
	if e != want || got != none {
		t.Errorf("%s: %v, error %d, want error %d", what, got, e, want)
	}
}

// failsList checks an error, next to which there is no list.
func failsList[T any](t *testing.T, what string, got []T, e, want api.Errno) {
	t.Helper()
	if e != want || len(got) != 0 {
		t.Errorf("%s: %v, error %d, want error %d", what, got, e, want)
	}
}

// value takes what a call returns that has no error.
func value[T any](t *testing.T, got T, e api.Errno) T {
	t.Helper()
	if e != api.OK {
		t.Fatalf("error %d", e)
	}
	return got
}

// determinant is that of rows, by package wide.
func determinant(t *testing.T, rows ...[]int64) string {
	t.Helper()
	m := make([][]string, len(rows))
	for i, row := range rows {
		for _, n := range row {
			m[i] = append(m[i], wide.FromInt(n))
		}
	}
	s, e := wide.Determinant(m)
	return value(t, s, e)
}

// paperSign is the sign of a ratio.
func paperSign(t *testing.T, s string) int {
	t.Helper()
	n, e := ratio.Cmp(s, "0")
	return value(t, n, e)
}

// paperDot is the product of two vectors, by package wide.
func paperDot(t *testing.T, u, v [3]int64) string {
	t.Helper()
	var l []string
	for i := range u {
		s, e := wide.Mul(wide.FromInt(u[i]), wide.FromInt(v[i]))
		l = append(l, value(t, s, e))
	}
	s, e := wide.Sum(l)
	return value(t, s, e)
}

// paperVolume has the sign of the product of u and the vector product of v and w.
func paperVolume(t *testing.T, u, v, w [3]int64) int {
	t.Helper()
	return paperSign(t, determinant(t, u[:], v[:], w[:]))
}

// paperDirection is by the definition.
func paperDirection(t *testing.T, p, q api.Plane) [3]int64 {
	t.Helper()
	var l [3]string
	by := "0"
	for i := range l {
		j, k := (i+1)%3, (i+2)%3
		l[i] = determinant(t, []int64{p[j], p[k]}, []int64{q[j], q[k]})
		s, e := wide.Gcd(by, l[i])
		by = value(t, s, e)
	}
	var d [3]int64
	for i := range l {
		s, rest, e := wide.Div(l[i], by)
		n, fits := wide.ToInt(value(t, s, e))
		if rest != "0" || !fits {
			t.Fatalf("%s / %s: %s, %s", l[i], by, s, rest)
		}
		d[i] = n
	}
	return d
}

// paperAlong is the sign of the product of the direction and the vector that leads from b to a, by package ratio.
func paperAlong(t *testing.T, p, q api.Plane, a, b api.Point) int {
	t.Helper()
	x, e := point.Coordinates(a)
	value(t, x, e)
	y, e := point.Coordinates(b)
	value(t, y, e)
	var l []string
	for i, n := range paperDirection(t, p, q) {
		s, e := ratio.Sub(x[i], y[i])
		s, f := ratio.Mul(value(t, s, e), wide.FromInt(n))
		l = append(l, value(t, s, f))
	}
	s, e := ratio.Sum(l)
	return paperSign(t, value(t, s, e))
}

// paperAngle is by the definition: n, u and v turn like the axes if v is counter-clockwise.
func paperAngle(t *testing.T, p api.Plane, u, v [3]int64) int {
	t.Helper()
	switch paperVolume(t, normalOf(p), u, v) {
	case 1:
		return 1
	case -1:
		return 3
	}
	return 1 - paperSign(t, paperDot(t, u, v))
}

// wrongPlanes are planes that are not right.
func wrongPlanes() []api.Plane {
	return []api.Plane{
		{}, {0, 0, 0, 1}, {1001, 0, 0, 1}, {1, -1001, 0, 0}, {0, 1, 1001, 0}, {1, 0, 0, 1000001}, {1, 0, 0, -1000001},
		{2, 0, 0, 0}, {0, 0, 1000, 0}, {2, 4, 6, 8}, {-5, 10, 0, 1000000},
		{least, 0, 0, 1}, {0, 1, least, 0}, {1, 0, 0, least}, {greatest, 1, 0, 0}, {least, least, least, least},
	}
}

// wrongPoints are points that are not right. Some of them are on the line of x = 0 and y = 0.
func wrongPoints() []api.Point {
	return []api.Point{
		{}, {1, 2, 3, 0}, {0, 0, 1, -1}, {1, 2, 3, -4}, {0, 0, 0, 2}, {0, 0, -6, 8}, {2, 4, -6, 8},
		{0, 0, coord + 1, 1}, {-coord - 1, 0, 0, 1}, {0, coord + 1, 0, 1}, {0, 0, 1, weight + 1},
		{1, 2, 3, greatest}, {0, 0, 1, least}, {least, 0, 0, 1}, {0, 0, least, 1}, {greatest, 0, 0, 1},
	}
}

// wrongVectors are no directions in the plane {1, 0, 0, 5}; in most of the cases since they are too long.
func wrongVectors() [][3]int64 {
	return [][3]int64{
		{}, {1, 0, 0}, {-1, 1, 1}, {1, longest, 0}, {longest, 0, 0},
		{0, longest + 1, 0}, {0, -longest - 1, 0}, {0, 0, longest + 1}, {0, 1, -longest - 1}, {longest + 1, 0, 0},
		{0, least, 0}, {0, 1, least}, {least, 0, 0}, {least, least, least}, {0, greatest, 0}, {0, 0, -greatest}, {greatest, greatest, greatest},
	}
}
