package sums

import "math/bits"

// Long is an integer of three words, 2^64 high + low, for products of a Sum: from -2^191 to 2^191 - 1.
type Long struct {
	high Sum
	low  uint64
}

// Long returns s k.
func (s Sum) Long(k int64) Long {
	low := Sum{0, s.low}.Times(k)
	high := Product(int64(s.high), k).Plus(Of(int64(low.high)))
	return Long{high, low.low}
}

// LongTotal returns the sum of all.
func LongTotal(l ...Long) Long {
	var t Long
	for _, x := range l {
		low, carry := bits.Add64(t.low, x.low, 0)
		t = Long{Total(t.high, x.high, Of(int64(carry))), low}
	}
	return t
}

// Sign returns -1, 0 or 1.
func (x Long) Sign() int {
	if x.high == (Sum{}) && x.low > 0 {
		return 1
	}
	return x.high.Sign()
}
