// Package right checks the data that are given to calls: whether planes and points are right, and numbers in their ranges.
package right

import (
	"spokeshave/api"
	"spokeshave/sums"
)

// Check is a check of some of a call's data.
type Check func() api.Errno

// First makes checks, one after the other, and returns the first error, or OK.
func First(l ...Check) api.Errno {
	for _, check := range l {
		if e := check(); e != api.OK {
			return e
		}
	}
	return api.OK
}

// Planes checks that all planes are right.
func Planes(l ...api.Plane) Check {
	return each(l, isPlane, api.ErrPlane)
}

// Points checks that all points are right.
func Points(l ...api.Point) Check {
	return each(l, isPoint, api.ErrPoint)
}

// Within checks that all numbers have absolute values of at most limit.
func Within(limit int64, l ...int64) Check {
	return func() api.Errno {
		if !areWithin(limit, l...) {
			return api.ErrArg
		}
		return api.OK
	}
}

// Most checks that a list has at most so many elements.
func Most(limit, length int) Check {
	return func() api.Errno {
		if length > limit {
			return api.ErrLarge
		}
		return api.OK
	}
}

func each[T any](l []T, isRight func(T) bool, e api.Errno) Check {
	return func() api.Errno {
		for _, x := range l {
			if !isRight(x) {
				return e
			}
		}
		return api.OK
	}
}

func isPlane(p api.Plane) bool {
	if p[0] == 0 && p[1] == 0 && p[2] == 0 {
		return false
	}
	return areWithin(api.MaxNormal, p[0], p[1], p[2]) && areWithin(api.MaxOffset, p[3]) && areCoprime(p)
}

func isPoint(q api.Point) bool {
	if q[3] < 1 || q[3] > api.MaxWeight {
		return false
	}
	return areWithin(api.MaxCoord, q[0], q[1], q[2]) && areCoprime(q)
}

func areWithin(limit int64, l ...int64) bool {
	for _, n := range l {
		if n < -limit || n > limit {
			return false
		}
	}
	return true
}

func areCoprime(l [4]int64) bool {
	// The last number goes first: the weight of a point often is 1, which is the shortest way.
	return sums.Divisor(sums.Of(l[3]), sums.Of(l[2]), sums.Of(l[1]), sums.Of(l[0])) == sums.Of(1)
}
