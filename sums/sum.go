// Package sums reckons with integers of two words, and with few of three, in which sums of products of coordinates are exact.
package sums

import (
	"math/bits"
	"strconv"
)

// Text writes eighteen digits at once, which fit into an int64.
const (
	partBase  = 1_000_000_000_000_000_000
	partZeros = "000000000000000000"
)

// Sum is an integer from -2^127 to 2^127 - 1, in two's complement. What lies outside is reduced modulo 2^128.
type Sum struct{ high, low uint64 }

// Of returns n.
func Of(n int64) Sum {
	return Sum{uint64(n >> 63), uint64(n)}
}

// Product returns a b.
func Product(a, b int64) Sum {
	return Of(a).Times(b)
}

// Total returns the sum of all.
func Total(l ...Sum) Sum {
	var t Sum
	for _, s := range l {
		t = t.Plus(s)
	}
	return t
}

// Plus returns s + t.
func (s Sum) Plus(t Sum) Sum {
	low, carry := bits.Add64(s.low, t.low, 0)
	high, _ := bits.Add64(s.high, t.high, carry)
	return Sum{high, low}
}

// Minus returns s - t.
func (s Sum) Minus(t Sum) Sum {
	low, borrow := bits.Sub64(s.low, t.low, 0)
	high, _ := bits.Sub64(s.high, t.high, borrow)
	return Sum{high, low}
}

// Times returns s k.
func (s Sum) Times(k int64) Sum {
	high, low := bits.Mul64(s.low, uint64(k))
	return Sum{high + s.high*uint64(k) + s.low*uint64(k>>63), low}
}

// Sign returns -1, 0 or 1.
func (s Sum) Sign() int {
	if s == (Sum{}) {
		return 0
	}
	if int64(s.high) < 0 {
		return -1
	}
	return 1
}

// Size returns the absolute value.
func (s Sum) Size() Sum {
	if int64(s.high) < 0 {
		return Sum{}.Minus(s)
	}
	return s
}

// Int returns s and true if it is an int64.
func (s Sum) Int() (int64, bool) {
	n := int64(s.low)
	if Of(n) != s {
		return 0, false
	}
	return n, true
}

// Text returns s in decimal digits.
func (s Sum) Text() string {
	if n, fits := s.Int(); fits {
		return strconv.FormatInt(n, 10)
	}
	high, low := quotient(s.Size(), Of(partBase))
	digits := strconv.FormatUint(low.low, 10)
	text := high.Text() + partZeros[len(digits):] + digits
	if s.Sign() < 0 {
		return "-" + text
	}
	return text
}
