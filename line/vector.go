package line

import "cmp"

// vector has elements so small that the products below are exact in int64: normals, directions, and products of two of these.
type vector = [3]int64

// How a vector lies to another one, seen from the outer side of their plane, as Angle numbers it.
const (
	sameWay = iota
	counterclockwise
	opposite
	clockwise
)

func cross(u, v vector) vector {
	return vector{u[1]*v[2] - u[2]*v[1], u[2]*v[0] - u[0]*v[2], u[0]*v[1] - u[1]*v[0]}
}

func dot(u, v vector) int64 {
	return u[0]*v[0] + u[1]*v[1] + u[2]*v[2]
}

// sign returns -1, 0 or 1.
func sign[T ~int | ~int64](n T) int {
	return cmp.Compare(n, 0)
}

// angle tells how v lies to u in the plane with the normal n.
func angle(n, u, v vector) int {
	switch sign(dot(n, cross(u, v))) {
	case 1:
		return counterclockwise
	case -1:
		return clockwise
	}
	if sign(dot(u, v)) > 0 {
		return sameWay
	}
	return opposite
}

// first returns the index of the vector that comes first, clockwise from `from`, of several with the same direction the first one.
func first(n, from vector, l []vector) int {
	found := -1
search:
	for _, turn := range [...]int{clockwise, opposite, counterclockwise, sameWay} {
		for i, v := range l {
			if angle(n, from, v) != turn {
				continue
			}
			if found < 0 || angle(n, l[found], v) == counterclockwise {
				found = i
			}
		}
		if found >= 0 {
			break search
		}
	}
	return found
}
