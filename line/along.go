package line

import (
	"iter"

	"spokeshave/api"
	"spokeshave/point"
	"spokeshave/sums"
	"spokeshave/vectors"
)

// direction is that of the line of p and q, which are not parallel.
func direction(p, q api.Plane) vectors.Vector {
	v := vectors.Cross(vectors.Normal(p), vectors.Normal(q))
	// What is an int64 stays one when it is divided.
	n, _ := sums.Lowest(sums.Of(v[0]), sums.Of(v[1]), sums.Of(v[2]))
	return vectors.Vector{n[0], n[1], n[2]}
}

// lead is greater than 0 if a is further than b in the direction d, and 0 if neither is. It is the difference of both points, times their weights and d: less than 2^100.
func lead(d vectors.Vector, a, b api.Point) sums.Sum {
	part := func(i int) sums.Sum {
		return sums.Product(a[i], b[3]).Minus(sums.Product(b[i], a[3])).Times(d[i])
	}
	return sums.Total(part(0), part(1), part(2))
}

// meetings goes over the points in which planes of l meet the line of p and q.
func meetings(p, q api.Plane, l []api.Plane) iter.Seq[api.Point] {
	return func(yield func(api.Point) bool) {
		for _, r := range l {
			m, e := point.Meet(p, q, r)
			if e == api.OK && !yield(m) {
				return
			}
		}
	}
}

// isContaining returns whether r contains the line of p and q. It does if it is a sum of multiples of both: then all minors of the three are 0.
func isContaining(p, q, r api.Plane) bool {
	return sums.Minor(0, 1, 2, p, q, r) == (sums.Sum{}) && sums.Cross(p, q, r) == [3]sums.Sum{}
}
