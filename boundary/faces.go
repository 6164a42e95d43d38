package boundary

import (
	"cmp"
	"slices"

	"spokeshave/api"
	"spokeshave/plane"
)

// face is one of a set, by the corners of its loops.
type face struct {
	plane api.Plane
	loops [][]int
}

// faces returns all faces, in order.
func (f *surface) faces() []face {
	var faces []face
	numbers := map[int]int{}
	for _, loop := range f.loops {
		root := f.parts.root(f.bounds[loop[0]].piece)
		n, isKnown := numbers[root]
		if !isKnown {
			n = len(faces)
			numbers[root] = n
			faces = append(faces, face{plane: loop[0].plane})
		}
		faces[n].loops = append(faces[n].loops, turned(f.bends(loop)))
	}
	for _, c := range faces {
		// The outer loop comes first: it has the face's first point. A hole that came to that point would be a part of it.
		sort(c.loops, slices.Compare[[]int])
	}
	byPlane := func(a, b face) int {
		n, _ := plane.Cmp(a.plane, b.plane)
		return n
	}
	byOuterLoop := func(a, b face) int { return slices.Compare(a.loops[0], b.loops[0]) }
	sort(faces, byPlane, byOuterLoop)
	return faces
}

// ends returns the ends of the edges of all loops, in order.
func (f *surface) ends() [][2]int {
	var ends [][2]int
	for _, loop := range f.loops {
		corners := f.bends(loop)
		from := corners[len(corners)-1]
		for _, to := range corners {
			ends = append(ends, [2]int{from, to})
			from = to
		}
	}
	byFirst := func(a, b [2]int) int { return cmp.Compare(a[0], b[0]) }
	bySecond := func(a, b [2]int) int { return cmp.Compare(a[1], b[1]) }
	sort(ends, byFirst, bySecond)
	return ends
}

// bends returns, of a loop, those corners that are corners of the set.
func (f *surface) bends(loop []edge) []int {
	var l []int
	for _, e := range loop {
		if f.bent[e.from] {
			l = append(l, e.from)
		}
	}
	return l
}

// turned returns a loop from its first corner on. If it comes there several times, the first list in order is taken.
func turned(loop []int) []int {
	n, least := len(loop), slices.Min(loop)
	around := slices.Concat(loop, loop)
	first := around[:n:n]
	for k, c := range loop {
		if l := around[k : k+n : k+n]; c == least && slices.Compare(l, first) < 0 {
			first = l
		}
	}
	l := make([]int, n)
	copy(l, first)
	return l
}

// sort puts a list in an order or, where that is the same for two elements, in the next one.
func sort[T any](l []T, orders ...func(a, b T) int) {
	slices.SortFunc(l, func(a, b T) int {
		for _, order := range orders {
			if n := order(a, b); n != 0 {
				return n
			}
		}
		return 0
	})
}

// written returns faces with the points of their loops.
func (f *surface) written(faces []face) []api.Face {
	var l []api.Face
	for _, c := range faces {
		var loops [][]api.Point
		for _, loop := range c.loops {
			var points []api.Point
			for _, corner := range loop {
				points = append(points, f.corners[corner])
			}
			loops = append(loops, points)
		}
		l = append(l, api.Face{Plane: c.plane, Loops: loops})
	}
	return l
}
