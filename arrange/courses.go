package arrange

import (
	"cmp"
	"iter"

	"spokeshave/api"
	"spokeshave/sums"
	"spokeshave/vectors"
)

// course is the line of two planes of a list, first less than second, in the direction of both. Its points are, up to the weight, start + t along.
type course struct {
	planes        []api.Plane
	first, second int
	start         [4]int64
	along         vectors.Vector
}

// height is what a plane's sum is along a course: start + t slope, times a number greater than 0 that is the same for all planes. Both are less than 2^43.
type height struct{ start, slope int64 }

// courses goes over the lines of all pairs of planes that have one. A line of several pairs comes several times.
func courses(planes []api.Plane) iter.Seq[course] {
	return func(yield func(course) bool) {
		for j, q := range planes {
			for i, p := range planes[:j] {
				along := vectors.Cross(vectors.Normal(p), vectors.Normal(q))
				if along == (vectors.Vector{}) {
					continue
				}
				if !yield(course{planes, i, j, foot(p, q, along), along}) {
					return
				}
			}
		}
	}
}

// foot returns the point, with a weight greater than 0, in which the line of p and q meets a plane where one coordinate is 0.
func foot(p, q api.Plane, along vectors.Vector) [4]int64 {
	k := 0
	for along[k] == 0 {
		k++
	}
	if along[k] < 0 {
		p, q = q, p
	}
	i, j := (k+1)%3, (k+2)%3
	var point [4]int64
	point[i] = p[j]*q[3] - p[3]*q[j]
	point[j] = p[3]*q[i] - p[i]*q[3]
	point[3] = p[i]*q[j] - p[j]*q[i]
	return point
}

// height is that of plane r.
func (c course) height(r int) height {
	p, q := c.planes[r], c.start
	start := p[0]*q[0] + p[1]*q[1] + p[2]*q[2] + p[3]*q[3]
	return height{start, vectors.Dot(vectors.Normal(p), c.along)}
}

// way returns 1 if the line leads from the inner to the outer side of the plane, -1 if it leads the other way, 0 if it is parallel to it.
func (h height) way() int {
	return cmp.Compare(h.slope, 0)
}

// side returns the side of the plane on which the line begins.
func (h height) side() int {
	if h.slope == 0 {
		return cmp.Compare(h.start, 0)
	}
	return -h.way()
}

// order returns -1, 0 or 1, as the line meets the first plane before the second one, with it, or after it.
func (h height) order(g height) int {
	difference := sums.Product(g.start, h.slope).Minus(sums.Product(h.start, g.slope))
	return difference.Sign() * h.way() * g.way()
}

// isFirst returns whether the pair of planes is the first one of all pairs of a pencil, which is what contains the line.
func (c course) isFirst(pencil set) bool {
	return pencil&first(c.second) == only(c.first)
}

// sectors returns what makes the sectors round the line, where the planes of a pencil bound them: for plane i, the signs of those of its points for the others that are on one side of the line. Those on its other side have the opposite ones.
func (c course) sectors(pencil set) func(i int) signs {
	return func(i int) signs {
		left := vectors.Cross(vectors.Normal(c.planes[i]), c.along)
		var s signs
		for r := range pencil.all() {
			s = s.with(r, cmp.Compare(vectors.Dot(left, vectors.Normal(c.planes[r])), 0))
		}
		return s
	}
}
