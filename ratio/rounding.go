package ratio

import "strings"

// A rounding chooses between the two integers next to a ratio: it returns whether that goes up, which is rest / den above the lower one, q.
type rounding interface {
	goesUp(q, rest, den long) bool
}

// down takes the lower integer.
type down struct{}

func (down) goesUp(q, rest, den long) bool {
	return false
}

// nearest takes the nearer integer, and of two the even one.
type nearest struct{}

func (nearest) goesUp(q, rest, den long) bool {
	half := rest.plus(rest).minus(den).sign()
	return half > 0 || half == 0 && q.isOdd()
}

// rounded returns the integer for x 10^places.
func rounded[R rounding](x fraction, places int) string {
	scaled := lengthened(x.num).times(lengthened("1" + strings.Repeat("0", places)))
	den := lengthened(x.den)
	q, rest := scaled.over(den)
	var kind R
	if kind.goesUp(q, rest, den) {
		q = q.plus(long{"1"})
	}
	return q.text()
}

// withPoint divides an integer by 10^places by putting a point into it.
func withPoint(integer string, places int) string {
	if places == 0 {
		return integer
	}
	digits, negative := strings.CutPrefix(integer, "-")
	if missing := places + 1 - len(digits); missing > 0 {
		digits = strings.Repeat("0", missing) + digits
	}
	whole := len(digits) - places
	text := digits[:whole] + "." + digits[whole:]
	if negative {
		return "-" + text
	}
	return text
}
