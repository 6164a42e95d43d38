package ratio

import (
	"spokeshave/wide"
)

// These are calls of wide without their errors, for numbers of which it is known that they cause none: they are right, none of them by which is divided is 0, and the results are not too long.

func add(a, b string) string {
	s, _ := wide.Add(a, b)
	return s
}

func sub(a, b string) string {
	s, _ := wide.Sub(a, b)
	return s
}

func mul(a, b string) string {
	s, _ := wide.Mul(a, b)
	return s
}

func div(a, b string) (q, r string) {
	q, r, _ = wide.Div(a, b)
	return q, r
}

func gcd(a, b string) string {
	s, _ := wide.Gcd(a, b)
	return s
}

func order(a, b string) int {
	n, _ := wide.Cmp(a, b)
	return n
}

func sign(a string) int {
	return order(a, "0")
}

func opposite(a string) string {
	return sub("0", a)
}
