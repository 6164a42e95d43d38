package wide_test

import (
	"strings"
	"testing"

	"spokeshave/api"
	"spokeshave/wide"
)

// rolls gives numbers that look random and are the same in every run.
type rolls uint64

func (r *rolls) below(n int) int {
	*r = *r*6364136223846793005 + 1442695040888963407
	return int(uint64(*r) >> 33 % uint64(n))
}

// number gives one with at most so many digits. Some have long runs of 0 and 9, where carries go far.
func (r *rolls) number(digits int) string {
	among := []string{"0123456789", "09", "0", "9"}[r.below(4)]
	text := make([]byte, 0, digits)
	for range r.below(digits) {
		if r.below(12) == 0 {
			among = []string{"0123456789", "09", "0", "9"}[r.below(4)]
		}
		text = append(text, among[r.below(len(among))])
	}
	return plain(r.below(2) == 0, string(text))
}

// plain makes a number of a sign and digits with leading zeros.
func plain(negative bool, digits string) string {
	digits = strings.TrimLeft(digits, "0")
	if digits == "" {
		return "0"
	}
	if negative {
		return "-" + digits
	}
	return digits
}

func parts(a string) (negative bool, digits string) {
	digits, negative = strings.CutPrefix(a, "-")
	return negative, digits
}

func turned(a string) string {
	negative, digits := parts(a)
	return plain(!negative, digits)
}

// digit returns the digit of a at the place i from the right.
func digit(a string, i int) int {
	if i >= len(a) {
		return 0
	}
	return int(a[len(a)-1-i] - '0')
}

// notLess compares numbers that are not negative.
func notLess(a, b string) bool {
	if len(a) != len(b) {
		return len(a) > len(b)
	}
	return a >= b
}

// paperSum adds digit by digit.
func paperSum(a, b string) string {
	signA, a := parts(a)
	signB, b := parts(b)
	if !notLess(a, b) {
		signA, a, signB, b = signB, b, signA, a
	}
	sign := 1
	if signA != signB {
		sign = -1
	}
	text := make([]byte, len(a)+1)
	carry := 0
	for i := range text {
		n := digit(a, i) + sign*digit(b, i) + carry + 10
		text[len(text)-1-i] = byte('0' + n%10)
		carry = n/10 - 1
	}
	return plain(signA, string(text))
}

// paperProduct multiplies digit by digit.
func paperProduct(a, b string) string {
	signA, a := parts(a)
	signB, b := parts(b)
	text := make([]byte, len(a)+len(b))
	for i := range a {
		carry := 0
		for j := range len(b) + 1 {
			at := len(text) - 1 - i - j
			n := digit(a, i)*digit(b, j) + int(text[at]) + carry
			text[at] = byte(n % 10)
			carry = n / 10
		}
	}
	for i := range text {
		text[i] += '0'
	}
	return plain(signA != signB, string(text))
}

// ten returns 10 to the power of k.
func ten(k int) string {
	return "1" + strings.Repeat("0", k)
}

func nines(k int) string {
	return strings.Repeat("9", k)
}

// short cuts what a test prints.
func short(a string) string {
	if len(a) > 60 {
		return a[:30] + ".." + a[len(a)-30:]
	}
	return a
}

func same(t *testing.T, what, got string, e api.Errno, want string) {
	t.Helper()
	if e != api.OK || got != want {
		t.Errorf("%s: %s, error %d, want %s", what, short(got), e, short(want))
	}
}

// fails checks an error, next to which there is no result.
func fails(t *testing.T, what, got string, e, want api.Errno) {
	t.Helper()
	if e != want || got != "" {
		t.Errorf("%s: %q, error %d, want error %d", what, short(got), e, want)
	}
}

// value takes what a call returns that has no error.
func value(t *testing.T, got string, e api.Errno) string {
	t.Helper()
	if e != api.OK {
		t.Fatalf("error %d", e)
	}
	return got
}

func add(t *testing.T, a, b string) string {
	t.Helper()
	s, e := wide.Add(a, b)
	return value(t, s, e)
}

func sub(t *testing.T, a, b string) string {
	t.Helper()
	s, e := wide.Sub(a, b)
	return value(t, s, e)
}

func mul(t *testing.T, a, b string) string {
	t.Helper()
	s, e := wide.Mul(a, b)
	return value(t, s, e)
}
