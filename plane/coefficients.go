package plane

import (
	"cmp"
	"iter"

	"spokeshave/api"
	"spokeshave/sums"
)

// pairs goes over the coefficients of two planes, or of a plane and a point, side by side.
func pairs(p, q [4]int64) iter.Seq2[int64, int64] {
	return func(yield func(int64, int64) bool) {
		for i := range p {
			if !yield(p[i], q[i]) {
				return
			}
		}
	}
}

// product is the sum of the products. That of a plane and a point has the sign of the point's side.
func product(p, q [4]int64) sums.Sum {
	var t sums.Sum
	for a, x := range pairs(p, q) {
		t = t.Plus(sums.Product(a, x))
	}
	return t
}

func compare(p, q api.Plane) int {
	for a, b := range pairs(p, q) {
		if n := cmp.Compare(a, b); n != 0 {
			return n
		}
	}
	return 0
}

func opposite(p api.Plane) api.Plane {
	return api.Plane{-p[0], -p[1], -p[2], -p[3]}
}

func shown(p api.Plane) api.Plane {
	if compare(p, api.Plane{}) < 0 {
		return opposite(p)
	}
	return p
}

func areParallel(p, q api.Plane) bool {
	return p[1]*q[2] == p[2]*q[1] && p[2]*q[0] == p[0]*q[2] && p[0]*q[1] == p[1]*q[0]
}

// small returns a plane whose coefficients have no common divisor, if they are not too large.
func small(p api.Plane) (api.Plane, api.Errno) {
	if Check(p) != api.OK {
		return api.Plane{}, api.ErrLarge
	}
	return p, api.OK
}

// at returns the plane with the normal n, or a multiple of it, that contains q.
func at(q api.Point, n []int64) (api.Plane, api.Errno) {
	d := n[0]*q[0] + n[1]*q[1] + n[2]*q[2]
	return Make(n[0]*q[3], n[1]*q[3], n[2]*q[3], -d)
}
