package ratio

import (
	"iter"
	"slices"
	"strings"
)

// A part has so few digits that wide holds a product of two of them, with many more added to it, and a dividend of three.
const (
	partDigits = 500
	wideParts  = 4 // of the longest number of wide
	tenZeros   = "0000000000"
	fiftyZeros = tenZeros + tenZeros + tenZeros + tenZeros + tenZeros
	partZeros  = fiftyZeros + fiftyZeros + fiftyZeros + fiftyZeros + fiftyZeros + fiftyZeros + fiftyZeros + fiftyZeros + fiftyZeros + fiftyZeros
	base       = "1" + partZeros
)

// long is an integer of any length, for what comes between a call's arguments and its result and is too long for wide: parts, the lowest first, each of them a number of package wide, to the base of 10^500. All but the last one are from 0 to less than the base; the last one is less than the base, has the sign of the whole, and is not 0. 0 has no parts.
type long []string

// lengthened makes a long number of a number of package wide.
func lengthened(a string) long {
	var x long
	for len(strings.TrimPrefix(a, "-")) > partDigits {
		high, low := div(a, base)
		x = append(x, low)
		a = high
	}
	return append(x, a).trimmed()
}

// trimmed cuts off zeros at the top. The capacity is cut too, so that an append never writes into them.
func (x long) trimmed() long {
	n := len(x)
	for n > 0 && x[n-1] == "0" {
		n--
	}
	return x[:n:n]
}

// carried makes the long number of columns, which may be less than 0 and longer than a part. It changes them.
func carried(columns long) long {
	if len(columns) == 0 {
		return nil
	}
	top := len(columns) - 1
	for i := range top {
		high, low := div(columns[i], base)
		columns[i] = low
		columns[i+1] = add(columns[i+1], high)
	}
	return append(columns[:top:top], lengthened(columns[top])...).trimmed()
}

func (x long) sign() int {
	if len(x) == 0 {
		return 0
	}
	return sign(x[len(x)-1])
}

// plusTimes returns x + y factor, where factor is not longer than a part.
func (x long) plusTimes(y long, factor string) long {
	columns := slices.Clone(x)
	for i, part := range y {
		if i == len(columns) {
			columns = append(columns, "0")
		}
		columns[i] = add(columns[i], mul(part, factor))
	}
	return carried(columns)
}

func (x long) plus(y long) long {
	return x.plusTimes(y, "1")
}

func (x long) minus(y long) long {
	return x.plusTimes(y, "-1")
}

func (x long) times(y long) long {
	if len(x) == 0 || len(y) == 0 {
		return nil
	}
	columns := slices.Repeat(long{"0"}, len(x)+len(y)-1)
	for i, a := range x {
		for j, b := range y {
			columns[i+j] = add(columns[i+j], mul(a, b))
		}
	}
	return carried(columns)
}

// down goes over the parts and their positions, from the highest on.
func (x long) down() iter.Seq2[int, string] {
	return func(yield func(int, string) bool) {
		for i := len(x) - 1; i >= 0; i-- {
			if !yield(i, x[i]) {
				return
			}
		}
	}
}

// over returns q and r with x = q y + r, r from 0 to less than y, which is greater than 0.
func (x long) over(y long) (q, r long) {
	q = make(long, len(x))
	for i, part := range x.down() {
		r = append(long{part}, r...).trimmed()
		q[i], r = r.step(y)
	}
	return q.trimmed(), r
}

// step divides x, whose quotient by y is a single part. It divides by the two highest parts of y, which are at least the base, and then takes the lower ones into account: so the quotient is too great by 1 at the most, and never too small.
func (x long) step(y long) (q string, r long) {
	cut := max(len(y)-2, 0)
	q, r = "0", x
	if len(x) > cut {
		high, rest := div(x[cut:].text(), y[cut:].text())
		q, r = high, append(x[:cut:cut], lengthened(rest)...).trimmed()
		r = r.plusTimes(y[:cut], opposite(q))
	}
	for r.sign() < 0 {
		q, r = sub(q, "1"), r.plus(y)
	}
	return q, r
}

// divisor returns the greatest common divisor of x and a, where a is a number of package wide greater than 0.
func (x long) divisor(a string) string {
	if a == "1" {
		return a
	}
	_, rest := x.over(lengthened(a))
	return gcd(rest.text(), a)
}

// divided returns x / a, where a is a number of package wide greater than 0 that divides x.
func (x long) divided(a string) long {
	if a == "1" {
		return x
	}
	q, _ := x.over(lengthened(a))
	return q
}

// isOdd needs the last digit alone, also of a number less than 0, since the base is even.
func (x long) isOdd() bool {
	if len(x) == 0 {
		return false
	}
	digit := x[0][len(x[0])-1] - '0'
	return digit%2 == 1
}

// text returns the digits, however many, as R6 describes an integer.
func (x long) text() string {
	switch x.sign() {
	case 0:
		return "0"
	case -1:
		return "-" + long{}.minus(x).text()
	}
	var b strings.Builder
	for i, part := range x.down() {
		if i < len(x)-1 {
			b.WriteString(partZeros[len(part):])
		}
		b.WriteString(part)
	}
	return b.String()
}
