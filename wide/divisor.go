package wide

// cofactors say how two numbers x and y become smaller ones: a x + b y and c x + d y.
type cofactors struct{ a, b, c, d int64 }

// divisor returns the greatest common divisor: Euclid's, with many of its steps at once by Lehmer's method, which finds them with the two highest words alone.
func divisor(x, y words) words {
	if compareWords(x, y) < 0 {
		x, y = y, x
	}
	for len(x) > 2 {
		if len(y) == 0 {
			return x
		}
		m := highSteps(x, y)
		if m.b == 0 {
			_, rest := divideWords(x, y)
			x, y = y, rest
			continue
		}
		x, y = combined(x, y, m.a, m.b), combined(x, y, m.c, m.d)
	}
	return smallDivisor(x, y)
}

// smallDivisor is for numbers of at most two words, which fit into a uint64.
func smallDivisor(x, y words) words {
	a, b := twoWords(x, 0), twoWords(y, 0)
	for b > 0 {
		a, b = b, a%b
	}
	return words{a % base, a / base}.trimmed()
}

// twoWords returns the words at i and i + 1 as one number.
func twoWords(x words, i int) uint64 {
	two := uint64(0)
	for k := i + 1; k >= i; k-- {
		two *= base
		if k < len(x) {
			two += x[k]
		}
	}
	return two
}

// highSteps does those steps of Euclid's for x and y, x not less than y, whose quotients are certain from the two highest words of x and those of y at the same place: a quotient is certain if it is the same for the least and the greatest numbers that begin with these words. Without any step b is 0. Cofactors are no longer than a word: none is greater than the q of its step, and its product with that is not greater than the first p.
func highSteps(x, y words) cofactors {
	p := int64(twoWords(x, len(x)-2))
	q := int64(twoWords(y, len(x)-2))
	m := cofactors{a: 1, d: 1}
	for q+m.c > 0 && q+m.d > 0 {
		times := (p + m.a) / (q + m.c)
		if times != (p+m.b)/(q+m.d) {
			break
		}
		m = cofactors{m.c, m.d, m.a - times*m.c, m.b - times*m.d}
		p, q = q, p-times*q
	}
	return m
}

// combined returns a x + b y, which is not less than 0 and not longer than x.
func combined(x, y words, a, b int64) words {
	z := make(words, len(x))
	carry := int64(0)
	for i, word := range x {
		carry += a * int64(word)
		if i < len(y) {
			carry += b * int64(y[i])
		}
		low := carry % base
		if low < 0 {
			low += base
		}
		z[i] = uint64(low)
		carry = (carry - low) / base
	}
	return z.trimmed()
}
