package point

import (
	"iter"

	"spokeshave/api"
	"spokeshave/sums"
	"spokeshave/wide"
)

// level goes over the coordinates of two points side by side, both times the product of the weights.
func level(a, b api.Point) iter.Seq2[sums.Sum, sums.Sum] {
	return func(yield func(sums.Sum, sums.Sum) bool) {
		for i := range 3 {
			if !yield(sums.Product(a[i], b[3]), sums.Product(b[i], a[3])) {
				return
			}
		}
	}
}

func compare(a, b api.Point) int {
	if a == b {
		return 0
	}
	for x, y := range level(a, b) {
		if n := x.Minus(y).Sign(); n != 0 {
			return n
		}
	}
	return 0
}

func areOnLine(a, b, c api.Point) bool {
	return sums.Cross(a, b, c) == [3]sums.Sum{}
}

// volume has the sign of the determinant with the rows b - a, c - a and d - a. It is expanded along x, since minors that contain the weights fit into two words.
func volume(a, b, c, d api.Point) sums.Long {
	times := func(x int64, q, r, s api.Point) sums.Long {
		return sums.Minor(1, 2, 3, q, r, s).Long(x)
	}
	return sums.LongTotal(times(a[0], c, b, d), times(b[0], a, c, d), times(c[0], b, a, d), times(d[0], a, b, c))
}

// lowest returns the right point x / w, y / w, z / w, where w is not 0.
func lowest(x, y, z, w sums.Sum) (api.Point, api.Errno) {
	sign := int64(w.Sign())
	n, fits := sums.Lowest(x.Times(sign), y.Times(sign), z.Times(sign), w.Times(sign))
	if !fits {
		return api.Point{}, api.ErrLarge
	}
	return small(api.Point{n[0], n[1], n[2], n[3]})
}

// small returns a point whose numbers have no common divisor, if they are not too large.
func small(q api.Point) (api.Point, api.Errno) {
	if Check(q) != api.OK {
		return api.Point{}, api.ErrLarge
	}
	return q, api.OK
}

// square returns n n, a number of package wide that is much shorter than such a number may be: no call of wide that is made with it has an error.
func square(n sums.Sum) string {
	s, _ := wide.Mul(n.Text(), n.Text())
	return s
}

// ratio writes num / den in lowest terms, where den is greater than 0.
func ratio(num, den string) string {
	by, _ := wide.Gcd(num, den)
	num, _, _ = wide.Div(num, by)
	den, _, _ = wide.Div(den, by)
	if den == "1" {
		return num
	}
	return num + "/" + den
}
