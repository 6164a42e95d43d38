package solid

import (
	"cmp"
	"iter"
	"slices"

	"spokeshave/api"
	"spokeshave/lists"
	"spokeshave/point"
	"spokeshave/sums"
)

// loops goes over the loops of all faces. With a loop comes the plane of its face.
func loops(s api.Solid) iter.Seq2[api.Plane, []api.Point] {
	return func(yield func(api.Plane, []api.Point) bool) {
		for _, f := range s.Faces {
			for _, loop := range f.Loops {
				if !yield(f.Plane, loop) {
					return
				}
			}
		}
	}
}

// edges goes over the edges of all loops. With an edge comes the plane of its face.
func edges(s api.Solid) iter.Seq2[api.Plane, [2]api.Point] {
	return func(yield func(api.Plane, [2]api.Point) bool) {
		for p, loop := range loops(s) {
			for k, to := range loop {
				from := loop[(k+len(loop)-1)%len(loop)]
				if !yield(p, [2]api.Point{from, to}) {
					return
				}
			}
		}
	}
}

// corners returns all points of the loops, in order.
func corners(s api.Solid) []api.Point {
	var l []api.Point
	for _, loop := range loops(s) {
		l = append(l, loop...)
	}
	return lists.Sorted(l, byPlace)
}

// byPlace is the order of points, as sorting takes it.
func byPlace(a, b api.Point) int {
	n, _ := point.Cmp(a, b)
	return n
}

func byEnds(a, b [2]api.Point) int {
	return cmp.Or(byPlace(a[0], b[0]), byPlace(a[1], b[1]))
}

// alongAxis returns the order of points by one coordinate alone.
func alongAxis(axis int) func(a, b api.Point) int {
	return func(a, b api.Point) int {
		return sums.Product(a[axis], b[3]).Minus(sums.Product(b[axis], a[3])).Sign()
	}
}

func coordinate(q api.Point, axis int) string {
	l, _ := point.Coordinates(q)
	return l[axis]
}

func areSame(s, t api.Solid) bool {
	return slices.EqualFunc(s.Faces, t.Faces, func(f, g api.Face) bool {
		return f.Plane == g.Plane && slices.EqualFunc(f.Loops, g.Loops, slices.Equal[[]api.Point])
	})
}
