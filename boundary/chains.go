package boundary

import (
	"iter"

	"spokeshave/api"
	"spokeshave/arrange"
	"spokeshave/line"
)

// frame is planes with all their corners, in order. A corner is called by its index.
type frame struct {
	planes  []api.Plane
	corners []api.Point
	signs   []string // the corners' sign strings
}

// chain is a line on which planes meet, by the corners on it, in order.
type chain struct {
	pencil  []int // the planes that contain the line
	along   [3]int64
	corners []int
}

// segment is one of a chain, as it lies on one of the planes that contain it: with a piece on its left, and one on its right, seen from the outer side.
type segment struct {
	from, to    int
	along       [3]int64
	left, right string
}

func frameOf(planes []api.Plane) frame {
	f := frame{planes: planes}
	f.corners, _ = arrange.Corners(planes)
	for _, q := range f.corners {
		signs, _ := arrange.Signs(planes, q)
		f.signs = append(f.signs, signs)
	}
	return f
}

// chains goes over all lines, each once.
func (f frame) chains() iter.Seq[chain] {
	return func(yield func(chain) bool) {
		for i, p := range f.planes {
			corners := f.on(i, f.all())
			for j := i + 1; j < len(f.planes); j++ {
				pencil, e := line.Pencil(p, f.planes[j], f.planes)
				// Of all pairs of planes that have this line, the first one is taken.
				if e != api.OK || pencil[0] != i || pencil[1] != j {
					continue
				}
				if !yield(chain{pencil, rising(p, f.planes[j]), f.on(j, corners)}) {
					return
				}
			}
		}
	}
}

// all returns all corners.
func (f frame) all() []int {
	l := make([]int, len(f.corners))
	for c := range l {
		l[c] = c
	}
	return l
}

// on returns those of some corners that are on plane i.
func (f frame) on(i int, some []int) []int {
	var l []int
	for _, c := range some {
		if f.signs[c][i] == '0' {
			l = append(l, c)
		}
	}
	return l
}

// rising returns that direction of the line of p and q in which its points are in order: it has a first element other than 0 that is greater than 0.
func rising(p, q api.Plane) [3]int64 {
	along, _ := line.Direction(p, q)
	k := 0
	for along[k] == 0 {
		k++
	}
	if along[k] < 0 {
		return back(along)
	}
	return along
}

func back(along [3]int64) [3]int64 {
	return [3]int64{-along[0], -along[1], -along[2]}
}

// segments goes over those segments of the chain that have two ends, as they lie on plane i.
func (f frame) segments(c chain, i int) iter.Seq[segment] {
	return func(yield func(segment) bool) {
		left := f.leftOf(c, i)
		for n := 1; n < len(c.corners); n++ {
			from, to := c.corners[n-1], c.corners[n]
			s := segment{from: from, to: to, along: c.along}
			s.left, s.right = beside(f.signs[from], f.signs[to], left)
			if !yield(s) {
				return
			}
		}
	}
}

// leftOf returns, for each plane, on which side of it plane i is to the left of the chain: -1 or 1, and 0 for plane i and all that do not contain the line.
func (f frame) leftOf(c chain, i int) []int {
	p, q := f.planes[i], f.planes[c.pencil[0]]
	if p == q {
		q = f.planes[c.pencil[1]]
	}
	turn := 1
	if along, _ := line.Direction(p, q); along != c.along {
		turn = -1
	}
	left := make([]int, len(f.planes))
	for _, r := range c.pencil {
		side, _ := line.Left(p, q, f.planes[r])
		left[r] = turn * side
	}
	return left
}

// beside returns the sign strings of the pieces on both sides of a segment between two corners with these sign strings. A plane that contains both corners contains the segment; of any other one the segment is on that side on which the corners are, or the one that is not on the plane.
func beside(from, to string, toLeft []int) (left, right string) {
	l, r := []byte(from), []byte(from)
	for i, side := range toLeft {
		if from[i] == '0' {
			l[i], r[i] = to[i], to[i]
		}
		if side != 0 {
			l[i], r[i] = "-0+"[1+side], "-0+"[1-side]
		}
	}
	return string(l), string(r)
}
