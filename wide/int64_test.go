package wide_test

import (
	"math"
	"testing"

	"spokeshave/wide"
)

func TestInt64(t *testing.T) {
	for _, c := range []struct {
		n    int64
		text string
	}{
		{0, "0"}, {1, "1"}, {-1, "-1"}, {9, "9"}, {10, "10"}, {-10, "-10"}, {999999999, "999999999"}, {1000000000, "1000000000"}, {-1000000000, "-1000000000"},
		{1000000001, "1000000001"}, {math.MaxInt32, "2147483647"}, {math.MinInt32, "-2147483648"}, {math.MaxUint32 + 1, "4294967296"},
		{1000000000000000000, "1000000000000000000"}, {-999999999999999999, "-999999999999999999"},
		{math.MaxInt64, "9223372036854775807"}, {math.MaxInt64 - 1, "9223372036854775806"}, {math.MinInt64, "-9223372036854775808"}, {math.MinInt64 + 1, "-9223372036854775807"},
	} {
		if got := wide.FromInt(c.n); got != c.text {
			t.Errorf("FromInt of %d: %s", c.n, got)
		}
		if n, ok := wide.ToInt(c.text); n != c.n || !ok {
			t.Errorf("ToInt of %s: %d, %t", c.text, n, ok)
		}
	}
	var r rolls
	for range 1000 {
		n := int64(r.below(1<<31))<<r.below(33) - int64(r.below(1<<31))<<r.below(33)
		text := wide.FromInt(n)
		if got, ok := wide.ToInt(text); got != n || !ok || !wide.Is(text) {
			t.Errorf("ToInt of FromInt of %d: %d, %t", n, got, ok)
		}
	}
}

func TestNotInt64(t *testing.T) {
	beyond := []string{
		"9223372036854775808", "-9223372036854775809", "9223372036854775817", "10000000000000000000", "-10000000000000000000",
		"18446744073709551615", "18446744073709551616", "18446744073709551617", "-18446744073709551616", "-18446744073709551617",
		"36893488147419103232", "340282366920938463463374607431768211457", nines(2000), "-" + nines(2000),
	}
	for _, a := range append(beyond, notNumbers()...) {
		if n, ok := wide.ToInt(a); n != 0 || ok {
			t.Errorf("ToInt of %s: %d, %t", short(a), n, ok)
		}
	}
}
