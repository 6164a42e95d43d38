package ratio

import (
	"iter"

	"spokeshave/api"
	"spokeshave/wide"
)

// simplest returns the ratio between low and high, low less than high, with the least denominator, and of several such the one nearest to 0.
func simplest(low, high fraction) (fraction, api.Errno) {
	if sign(low.num) < 0 && sign(high.num) > 0 {
		return fraction{"0", "1"}, api.OK
	}
	if sign(low.num) >= 0 {
		return unfolded(quotients(low, high))
	}
	x, e := unfolded(quotients(high.opposite(), low.opposite()))
	if e != api.OK {
		return fraction{}, e
	}
	return x.opposite(), api.OK
}

// quotients goes over the continued fraction of the simplest ratio between low, which is not less than 0, and high. It ends with the first integer that lies between; as long as there is none, both have the same integer below, and what is left is turned over. The last quotient may be too long, which its error tells. A denominator of 0 stands for a high without end.
func quotients(low, high fraction) iter.Seq2[string, api.Errno] {
	return func(yield func(string, api.Errno) bool) {
		for {
			n, below := div(low.num, low.den)
			above := sub(high.num, mul(n, high.den))
			if order(above, high.den) > 0 {
				yield(wide.Add(n, "1"))
				return
			}
			if !yield(n, api.OK) {
				return
			}
			low, high = fraction{high.den, above}, fraction{low.den, below}
		}
	}
}

// unfolded returns the value of a continued fraction. Its convergents only grow: once one of them is too long, so is the value.
func unfolded(all iter.Seq2[string, api.Errno]) (fraction, api.Errno) {
	before, last := [2]string{"0", "1"}, [2]string{"1", "0"}
	e := api.OK
search:
	for n, large := range all {
		if e = large; e != api.OK {
			break search
		}
		var next [2]string
		for i := range next {
			if next[i], e = convergent(n, last[i], before[i]); e != api.OK {
				break search
			}
		}
		before, last = last, next
	}
	if e != api.OK {
		return fraction{}, e
	}
	return fraction{last[0], last[1]}, api.OK
}

// convergent returns n last + before.
func convergent(n, last, before string) (string, api.Errno) {
	product, e := wide.Mul(n, last)
	if e != api.OK {
		return "", e
	}
	return wide.Add(product, before)
}
