package sums

import "math/bits"

// Divisor returns the greatest common divisor of all, and 0 if all are 0.
func Divisor(l ...Sum) Sum {
	var d Sum
	for _, s := range l {
		d = divisor(d, s.Size())
		if d == Of(1) {
			break
		}
	}
	return d
}

// Lowest returns the numbers, divided by their greatest common divisor, and true if they then are int64.
func Lowest(l ...Sum) ([]int64, bool) {
	d := Divisor(l...)
	lowest := make([]int64, len(l))
	if d == (Sum{}) {
		return lowest, true
	}
	for i, s := range l {
		n, fits := over(s, d).Int()
		if !fits {
			return nil, false
		}
		lowest[i] = n
	}
	return lowest, true
}

// divisor is that of two that are at least 0.
func divisor(a, b Sum) Sum {
	for b != (Sum{}) {
		if a.high|b.high == 0 {
			return Sum{0, wordDivisor(a.low, b.low)}
		}
		_, rest := quotient(a, b)
		a, b = b, rest
	}
	return a
}

func wordDivisor(a, b uint64) uint64 {
	for b != 0 {
		a, b = b, a%b
	}
	return a
}

// over divides by one that is greater than 0, towards 0.
func over(s, by Sum) Sum {
	q, _ := quotient(s.Size(), by)
	if s.Sign() < 0 {
		return Sum{}.Minus(q)
	}
	return q
}

// quotient returns the quotient and the rest of a, which is at least 0, by b, which is greater than 0.
func quotient(a, b Sum) (q, rest Sum) {
	if b.high == 0 {
		low, r := bits.Div64(a.high%b.low, a.low, b.low)
		return Sum{a.high / b.low, low}, Sum{0, r}
	}
	// The quotient of a by the first 64 bits of b is the right one, or greater by 1: so one less is right, or less by 1.
	shift := bits.LeadingZeros64(b.high)
	first := b.high<<shift | b.low>>(64-shift)
	n, _ := bits.Div64(a.high>>1, a.high<<63|a.low>>1, first)
	n >>= 63 - shift
	if n > 0 {
		n--
	}
	rest = a.Minus(b.Times(int64(n)))
	if left := rest.Minus(b); left.Sign() >= 0 {
		return Of(int64(n) + 1), left
	}
	return Of(int64(n)), rest
}
