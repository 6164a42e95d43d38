package ratio

import (
	"strings"

	"spokeshave/api"
	"spokeshave/wide"
)

// fraction is a ratio: numbers of package wide in lowest terms, the denominator greater than 0. Equal ratios are equal fractions.
type fraction struct{ num, den string }

// read makes the fraction of a string, if that is a ratio.
func read(a string) (fraction, bool) {
	num, den, cut := strings.Cut(a, "/")
	if !cut {
		return fraction{num, "1"}, wide.Is(num)
	}
	if !wide.Is(num) || !wide.Is(den) || order(den, "1") <= 0 || gcd(num, den) != "1" {
		return fraction{}, false
	}
	return fraction{num, den}, true
}

func readAll(l ...string) ([]fraction, api.Errno) {
	fractions := make([]fraction, len(l))
	for i, a := range l {
		x, ok := read(a)
		if !ok {
			return nil, api.ErrForm
		}
		fractions[i] = x
	}
	return fractions, api.OK
}

func (x fraction) text() string {
	if x.den == "1" {
		return x.num
	}
	return x.num + "/" + x.den
}

// lowest returns num / den, where den is not 0.
func lowest(num, den string) fraction {
	common := gcd(num, den)
	if sign(den) < 0 {
		common = opposite(common)
	}
	num, _ = div(num, common)
	den, _ = div(den, common)
	return fraction{num, den}
}

func (x fraction) opposite() fraction {
	return fraction{opposite(x.num), x.den}
}

// inverse is for fractions other than 0.
func (x fraction) inverse() fraction {
	return lowest(x.den, x.num)
}

// product takes the common divisors out before it multiplies: what is too long then is so in the result.
func product(x, y fraction) (string, api.Errno) {
	left, right := lowest(x.num, y.den), lowest(y.num, x.den)
	num, e := wide.Mul(left.num, right.num)
	if e != api.OK {
		return "", e
	}
	den, e := wide.Mul(left.den, right.den)
	if e != api.OK {
		return "", e
	}
	return fraction{num, den}.text(), api.OK
}

// compare holds both fractions against each other over their common denominator, in wide if that is long enough for it.
func compare(x, y fraction) int {
	if x == y {
		return 0
	}
	left, e := wide.Mul(x.num, y.den)
	right, f := wide.Mul(y.num, x.den)
	if e == api.OK && f == api.OK {
		return order(left, right)
	}
	difference := lengthened(x.num).times(lengthened(y.den))
	return difference.minus(lengthened(y.num).times(lengthened(x.den))).sign()
}
