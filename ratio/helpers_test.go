package ratio_test

import (
	"strconv"
	"strings"
	"testing"

	"spokeshave/api"
	"spokeshave/ratio"
	"spokeshave/wide"
)

// rolls gives numbers that look random and are the same in every run.
type rolls uint64

func (r *rolls) below(n int) int {
	*r = *r*6364136223846793005 + 1442695040888963407
	return int(uint64(*r) >> 33 % uint64(n))
}

// whole gives an integer from 1 on, of at most so many digits.
func (r *rolls) whole(digits int) string {
	among := []string{"0123456789", "09", "1", "9"}[r.below(4)]
	text := []byte{byte('1' + r.below(9))}
	for range r.below(digits) {
		text = append(text, among[r.below(len(among))])
	}
	return string(text)
}

// ratio gives one whose parts have at most so many digits; some are integers, some 0.
func (r *rolls) ratio(t *testing.T, digits int) string {
	num := []string{"", "-"}[r.below(2)] + r.whole(digits)
	switch r.below(8) {
	case 0:
		return num
	case 1:
		return strconv.Itoa(r.below(3) - 1)
	}
	return made(t, num, r.whole(digits))
}

// shuffled puts a list into another order.
func (r *rolls) shuffled(l []string) []string {
	for i := range l {
		j := i + r.below(len(l)-i)
		l[i], l[j] = l[j], l[i]
	}
	return l
}

// ten returns 10 to the power of k.
func ten(k int) string {
	return "1" + strings.Repeat("0", k)
}

func nines(k int) string {
	return strings.Repeat("9", k)
}

// turned changes the sign.
func turned(a string) string {
	if rest, negative := strings.CutPrefix(a, "-"); negative {
		return rest
	}
	if a == "0" {
		return a
	}
	return "-" + a
}

// short cuts what a test prints.
func short(a string) string {
	if len(a) > 60 {
		return a[:30] + ".." + a[len(a)-30:]
	}
	return a
}

func same(t *testing.T, what, got string, e api.Errno, want string) {
	t.Helper()
	if e != api.OK || got != want {
		t.Errorf("%s: %s, error %d, want %s", what, short(got), e, short(want))
	}
}

// fails checks an error, next to which there is no result.
func fails(t *testing.T, what, got string, e, want api.Errno) {
	t.Helper()
	if e != want || got != "" {
		t.Errorf("%s: %q, error %d, want error %d", what, short(got), e, want)
	}
}

// value takes what a call returns that has no error.
func value(t *testing.T, got string, e api.Errno) string {
	t.Helper()
	if e != api.OK {
		t.Fatalf("error %d", e)
	}
	return got
}

func made(t *testing.T, num, den string) string {
	t.Helper()
	s, e := ratio.Make(num, den)
	return value(t, s, e)
}

func add(t *testing.T, a, b string) string {
	t.Helper()
	s, e := ratio.Add(a, b)
	return value(t, s, e)
}

func sub(t *testing.T, a, b string) string {
	t.Helper()
	s, e := ratio.Sub(a, b)
	return value(t, s, e)
}

func mul(t *testing.T, a, b string) string {
	t.Helper()
	s, e := ratio.Mul(a, b)
	return value(t, s, e)
}

func div(t *testing.T, a, b string) string {
	t.Helper()
	s, e := ratio.Div(a, b)
	return value(t, s, e)
}

func cmp(t *testing.T, a, b string) int {
	t.Helper()
	n, e := ratio.Cmp(a, b)
	if e != api.OK {
		t.Fatalf("error %d", e)
	}
	return n
}

func sum(t *testing.T, l ...string) string {
	t.Helper()
	s, e := ratio.Sum(l)
	return value(t, s, e)
}

func middle(t *testing.T, a, b string) string {
	t.Helper()
	s, e := ratio.Middle(a, b)
	return value(t, s, e)
}

func simple(t *testing.T, a, b string) string {
	t.Helper()
	s, e := ratio.Simple(a, b)
	return value(t, s, e)
}

// times multiplies integers by package wide.
func times(t *testing.T, a, b string) string {
	t.Helper()
	s, e := wide.Mul(a, b)
	return value(t, s, e)
}

func plus(t *testing.T, a, b string) string {
	t.Helper()
	s, e := wide.Add(a, b)
	return value(t, s, e)
}

// pair is a small ratio that the machine's integers reckon with. Its denominator is greater than 0.
type pair struct{ num, den int }

func (p pair) text() string {
	a, b := max(p.num, -p.num), p.den
	for b > 0 {
		a, b = b, a%b
	}
	if p.den == a {
		return strconv.Itoa(p.num / a)
	}
	return strconv.Itoa(p.num/a) + "/" + strconv.Itoa(p.den/a)
}

// over makes a pair of any two integers.
func over(num, den int) pair {
	if den < 0 {
		return pair{-num, -den}
	}
	return pair{num, den}
}

// floor divides downward.
func floor(a, b int) int {
	q := a / b
	if q*b > a {
		q--
	}
	return q
}

// pairs are all small ratios, several of them more than once.
func pairs() []pair {
	var l []pair
	for den := 1; den <= 7; den++ {
		for num := -16; num <= 16; num++ {
			l = append(l, pair{num, den})
		}
	}
	return l
}
