package line

import (
	"spokeshave/api"
	"spokeshave/plane"
	"spokeshave/right"
	"spokeshave/vectors"
)

// areCrossing checks that p and q have a line.
func areCrossing(p, q api.Plane) right.Check {
	return func() api.Errno {
		if vectors.Cross(vectors.Normal(p), vectors.Normal(q)) == (vectors.Vector{}) {
			return api.ErrNone
		}
		return api.OK
	}
}

// areOn checks that all points are on the line of p and q.
func areOn(p, q api.Plane, l ...api.Point) right.Check {
	return func() api.Errno {
		for _, a := range l {
			for _, r := range [...]api.Plane{p, q} {
				if side, _ := plane.Side(r, a); side != 0 {
					return api.ErrArg
				}
			}
		}
		return api.OK
	}
}

// areSome checks that a list of directions is neither empty nor too long.
func areSome(length int) right.Check {
	return func() api.Errno {
		if length == 0 || length > maxList {
			return api.ErrArg
		}
		return api.OK
	}
}

// areIn checks that all vectors are directions in p.
func areIn(p api.Plane, l ...vectors.Vector) right.Check {
	return func() api.Errno {
		for _, v := range l {
			if !isIn(p, v) {
				return api.ErrArg
			}
		}
		return api.OK
	}
}

// isIn looks at the sizes first: products of larger elements are not exact.
func isIn(p api.Plane, v vectors.Vector) bool {
	if right.First(right.Within(maxElement, v[:]...)) != api.OK {
		return false
	}
	return v != (vectors.Vector{}) && vectors.Dot(v, vectors.Normal(p)) == 0
}
