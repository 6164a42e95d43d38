package plane_test

import (
	"testing"

	"spokeshave/api"
	"spokeshave/plane"
	"spokeshave/wide"
)

const (
	least    = -1 << 63
	greatest = 1<<63 - 1
)

// rolls gives numbers that look random and are the same in every run.
type rolls uint64

func (r *rolls) below(n int64) int64 {
	*r = *r*6364136223846793005 + 1442695040888963407
	high := uint64(*r) >> 32
	*r = *r*6364136223846793005 + 1442695040888963407
	return int64((high<<32 | uint64(*r)>>32) % uint64(n))
}

// within gives a number with an absolute value of at most limit, often a small one or one next to the limit.
func (r *rolls) within(limit int64) int64 {
	n := r.below(limit + 1)
	switch r.below(4) {
	case 0:
		n = r.below(min(limit, 4) + 1)
	case 1:
		n = limit - r.below(min(limit, 4)+1)
	}
	if r.below(2) == 0 {
		return -n
	}
	return n
}

func (r *rolls) plane() api.Plane {
	for {
		p, e := plane.Make(r.within(api.MaxNormal), r.within(api.MaxNormal), r.within(api.MaxNormal), r.within(api.MaxOffset))
		if e == api.OK {
			return p
		}
	}
}

// point gives one whose coordinates and weight are within limits.
func (r *rolls) point(coord, weight int64) api.Point {
	q := api.Point{r.within(coord), r.within(coord), r.within(coord), 1 + r.below(weight)}
	by := divisor(q[:]...)
	for i := range q {
		q[i] /= by
	}
	return q
}

// on gives a point of the plane with the normal n that contains q.
func (r *rolls) on(n [3]int64, q api.Point) api.Point {
	u := cross(n, [3]int64{r.within(9), r.within(9), r.within(9)})
	k := 1 + r.below(9)
	p := api.Point{q[0]*k + u[0]*q[3], q[1]*k + u[1]*q[3], q[2]*k + u[2]*q[3], q[3] * k}
	by := divisor(p[:]...)
	for i := range p {
		p[i] /= by
	}
	return p
}

func cross(u, v [3]int64) [3]int64 {
	return [3]int64{u[1]*v[2] - u[2]*v[1], u[2]*v[0] - u[0]*v[2], u[0]*v[1] - u[1]*v[0]}
}

func divisor(l ...int64) int64 {
	var d int64
	for _, n := range l {
		for n != 0 {
			d, n = n, d%n
		}
	}
	return max(d, -d)
}

func sign(n int64) int {
	switch {
	case n < 0:
		return -1
	case n > 0:
		return 1
	}
	return 0
}

func opposite(p api.Plane) api.Plane {
	return api.Plane{-p[0], -p[1], -p[2], -p[3]}
}

// same checks a result that has no error.
func same[T comparable](t *testing.T, what string, got T, e api.Errno, want T) {
	t.Helper()
	if e != api.OK || got != want {
		t.Errorf("%s: %v, error %d, want %v", what, got, e, want)
	}
}

// fails checks an error, next to which there is no result.
func fails[T comparable](t *testing.T, what string, got T, e, want api.Errno) {
	t.Helper()
	var none T
	if e != want || got != none {
		t.Errorf("%s: %v, error %d, want error %d", what, got, e, want)
	}
}

// value takes what a call returns that has no error.
func value[T any](t *testing.T, got T, e api.Errno) T {
	t.Helper()
	if e != api.OK {
		t.Fatalf("error %d", e)
	}
	return got
}

// determinant is that of rows, by package wide.
func determinant(t *testing.T, rows ...[]int64) string {
	t.Helper()
	m := make([][]string, len(rows))
	for i, row := range rows {
		for _, n := range row {
			m[i] = append(m[i], wide.FromInt(n))
		}
	}
	s, e := wide.Determinant(m)
	return value(t, s, e)
}

// wrongPlanes are planes that are not right.
func wrongPlanes() []api.Plane {
	return []api.Plane{
		{}, {0, 0, 0, 1}, {0, 0, 0, -1000000},
		{1001, 0, 0, 1}, {-1001, 0, 0, 1}, {1, 1001, 0, 0}, {1, -1001, 0, 0}, {0, 1, 1001, 0}, {0, 1, -1001, 0},
		{1, 0, 0, 1000001}, {1, 0, 0, -1000001}, {999, 1000, 998, 1000001},
		{2, 0, 0, 0}, {0, -2, 0, 0}, {0, 0, 1000, 0}, {2, 4, 6, 8}, {3, 0, 0, 999999}, {-5, 10, 0, 1000000}, {0, 7, -7, 7},
		{least, 0, 0, 1}, {0, least, 1, 0}, {1, 0, least, 0}, {1, 0, 0, least}, {greatest, 1, 0, 0}, {1, 0, 0, greatest}, {least, least, least, least},
	}
}

// wrongPoints are points that are not right.
func wrongPoints() []api.Point {
	return []api.Point{
		{}, {1, 2, 3, 0}, {1, 2, 3, -1}, {1, 2, 3, -4}, {0, 0, 0, 2}, {2, 4, -6, 8}, {3, 3, 0, 3},
		{1<<43 + 1, 0, 0, 1}, {-1<<43 - 1, 0, 0, 1}, {0, 1<<43 + 1, 0, 1}, {0, -1<<43 - 1, 0, 1}, {0, 0, 1<<43 + 1, 1}, {0, 0, -1<<43 - 1, 1},
		{1, 0, 0, 1<<33 + 1}, {1, 2, 3, greatest}, {1, 2, 3, least}, {least, 0, 0, 1}, {0, least, 1, 1}, {0, 0, least, 1}, {greatest, 0, 0, 1},
		{1 << 43, 1 << 42, 0, 1 << 33},
	}
}
