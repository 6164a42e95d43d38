// Package vectors reckons with vectors of three integers so small that all is exact in int64: normals of planes, directions of lines, and products of two of these.
package vectors

import "spokeshave/api"

// Vector is a vector of three integers.
type Vector = [3]int64

// Normal returns the normal of p, which points to its outer side.
func Normal(p api.Plane) Vector {
	return Vector{p[0], p[1], p[2]}
}

// Cross returns the vector product.
func Cross(u, v Vector) Vector {
	return Vector{u[1]*v[2] - u[2]*v[1], u[2]*v[0] - u[0]*v[2], u[0]*v[1] - u[1]*v[0]}
}

// Dot returns the product that is a number.
func Dot(u, v Vector) int64 {
	return u[0]*v[0] + u[1]*v[1] + u[2]*v[2]
}
