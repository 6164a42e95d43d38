package sums

// Minor is the determinant whose rows are the numbers i, j and k of a, b and c. As all sums, it is reduced modulo 2^128.
func Minor(i, j, k int, a, b, c [4]int64) Sum {
	area := func(a, b [4]int64) Sum {
		return Product(a[i], b[j]).Minus(Product(a[j], b[i]))
	}
	return Total(area(a, b).Times(c[k]), area(b, c).Times(a[k]), area(c, a).Times(b[k]))
}

// Cross returns the first three minors of a, b and c. Of three points they are a multiple, greater than 0, of the vector product of b - a and c - a, and less than 2^122; of three planes they are the point where these meet, up to the weight.
func Cross(a, b, c [4]int64) [3]Sum {
	return [3]Sum{Minor(1, 2, 3, a, b, c), Minor(2, 0, 3, a, b, c), Minor(0, 1, 3, a, b, c)}
}
