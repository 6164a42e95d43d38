package line

import (
	"cmp"

	"spokeshave/vectors"
)

// How a vector lies to another one, seen from the outer side of their plane, as Angle numbers it.
const (
	sameWay = iota
	counterclockwise
	opposite
	clockwise
)

// sign returns -1, 0 or 1.
func sign[T ~int | ~int64](n T) int {
	return cmp.Compare(n, 0)
}

// angle tells how v lies to u in the plane with the normal n.
func angle(n, u, v vectors.Vector) int {
	switch sign(vectors.Dot(n, vectors.Cross(u, v))) {
	case 1:
		return counterclockwise
	case -1:
		return clockwise
	}
	if sign(vectors.Dot(u, v)) > 0 {
		return sameWay
	}
	return opposite
}

// first returns the index of the vector that comes first, clockwise from `from`, of several with the same direction the first one.
func first(n, from vectors.Vector, l []vectors.Vector) int {
	found := -1
search:
	for _, turn := range [...]int{clockwise, opposite, counterclockwise, sameWay} {
		for i, v := range l {
			if angle(n, from, v) != turn {
				continue
			}
			if found < 0 || angle(n, l[found], v) == counterclockwise {
				found = i
			}
		}
		if found >= 0 {
			break search
		}
	}
	return found
}
