// Package wide is layer 1: it calculates with integers of any length, which are strings of decimal digits. See shared/doc/01-wide.md.
package wide

import (
	"strconv"
	"strings"

	"spokeshave/api"
)

const (
	maxDigits   = 2000
	maxTerms    = 1000
	maxExponent = 1000
	maxRows     = 6
)

// Is returns whether a is a number: decimal digits without leading zeros, at most 2000 of them, with `-` before them if it is negative.
func Is(a string) bool {
	digits := strings.TrimPrefix(a, "-")
	if digits == "" || len(digits) > maxDigits {
		return false
	}
	if digits[0] == '0' && a != "0" {
		return false
	}
	for _, c := range digits {
		if c < '0' || c > '9' {
			return false
		}
	}
	return true
}

// Add returns a + b.
func Add(a, b string) (string, api.Errno) {
	x, y, e := pair(a, b)
	if e != api.OK {
		return "", e
	}
	return sum(x, y).written()
}

// Sub returns a - b.
func Sub(a, b string) (string, api.Errno) {
	x, y, e := pair(a, b)
	if e != api.OK {
		return "", e
	}
	return sum(x, opposite(y)).written()
}

// Mul returns a b.
func Mul(a, b string) (string, api.Errno) {
	x, y, e := pair(a, b)
	if e != api.OK {
		return "", e
	}
	return product(x, y).written()
}

// Div returns q and r with a = q b + r, r from 0 to less than the absolute value of b.
func Div(a, b string) (q, r string, e api.Errno) {
	x, y, e := pair(a, b)
	if e != api.OK {
		return "", "", e
	}
	if y.isZero() {
		return "", "", api.ErrZero
	}
	n, m := quotient(x, y)
	// Neither result is longer than the longer argument, so none is too large.
	q, _ = n.written()
	r, _ = m.written()
	return q, r, api.OK
}

// Gcd returns the greatest integer that divides both, and 0 of 0 and 0.
func Gcd(a, b string) (string, api.Errno) {
	x, y, e := pair(a, b)
	if e != api.OK {
		return "", e
	}
	return number{words: divisor(x.words, y.words)}.written()
}

// Cmp returns -1, 0 or 1, as a is less than, equal to or greater than b.
func Cmp(a, b string) (int, api.Errno) {
	x, y, e := pair(a, b)
	if e != api.OK {
		return 0, e
	}
	return compare(x, y), api.OK
}

// Pow returns a to the power of k, which is from 0 to 1000.
func Pow(a string, k int) (string, api.Errno) {
	if !Is(a) {
		return "", api.ErrForm
	}
	if k < 0 || k > maxExponent {
		return "", api.ErrArg
	}
	return power(read(a), k).written()
}

// Sum returns the sum of at most 1000 numbers.
func Sum(l []string) (string, api.Errno) {
	if !areAll(l) {
		return "", api.ErrForm
	}
	if len(l) > maxTerms {
		return "", api.ErrArg
	}
	return sum(readAll(l)...).written()
}

// Determinant returns the determinant of a square matrix of at most 6 rows, and 1 of one without rows.
func Determinant(m [][]string) (string, api.Errno) {
	square := len(m) <= maxRows
	for _, row := range m {
		if !areAll(row) {
			return "", api.ErrForm
		}
		square = square && len(row) == len(m)
	}
	if !square {
		return "", api.ErrArg
	}
	rows := make([][]number, len(m))
	for i, row := range m {
		rows[i] = readAll(row)
	}
	return determinant(rows).written()
}

// FromInt returns n as a number.
func FromInt(n int64) string {
	return strconv.FormatInt(n, 10)
}

// ToInt returns a and true if it is a number that is an int64.
func ToInt(a string) (int64, bool) {
	if !Is(a) {
		return 0, false
	}
	n, err := strconv.ParseInt(a, 10, 64)
	if err != nil {
		return 0, false
	}
	return n, true
}

// pair reads two arguments.
func pair(a, b string) (x, y number, e api.Errno) {
	if !Is(a) || !Is(b) {
		return number{}, number{}, api.ErrForm
	}
	return read(a), read(b), api.OK
}

func areAll(l []string) bool {
	for _, a := range l {
		if !Is(a) {
			return false
		}
	}
	return true
}

func readAll(l []string) []number {
	numbers := make([]number, len(l))
	for i, a := range l {
		numbers[i] = read(a)
	}
	return numbers
}
