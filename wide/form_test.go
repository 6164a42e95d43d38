package wide_test

import (
	"strings"
	"testing"

	"spokeshave/api"
	"spokeshave/wide"
)

// notNumbers are strings that R6 does not allow.
func notNumbers() []string {
	return []string{
		"", "-", "--1", "-0", "00", "01", "-01", "000000000000000000000", "+1", "+0", " 1", "1 ", "1\n", "\t1", "1 2",
		"1-", "1-2", "1a", "a", "x", "0x10", "1e3", "1.0", ".5", "1/2", "1_000", "1,000", ":", "/", "9:", "1/", "-a", "- 1",
		"\x00", "1\x00", "\xff", "1\xff2", "-\xff", "é", "\u0661\u0662", "\uff11", "1\u0662", "\u2212" + "1", "NaN", "inf",
		nines(2001), "-" + nines(2001), ten(2000), "0" + nines(1999), strings.Repeat("0", 2000), nines(1_000_000), "-" + nines(1999) + "x",
	}
}

func numbers() []string {
	return []string{
		"0", "1", "-1", "9", "10", "-10", "1000000000", "999999999", "18446744073709551616", "-9223372036854775809",
		nines(1999), nines(2000), "-" + nines(2000), ten(1999), "-" + ten(1999),
	}
}

func TestIs(t *testing.T) {
	for _, a := range numbers() {
		if !wide.Is(a) {
			t.Errorf("Is(%q) is false", short(a))
		}
	}
	for _, a := range notNumbers() {
		if wide.Is(a) {
			t.Errorf("Is(%q) is true", short(a))
		}
	}
	for c := range 256 {
		s := string([]byte{byte(c)})
		if digit := c >= '0' && c <= '9'; wide.Is(s) != digit || wide.Is("1"+s) != digit || wide.Is("-1"+s) != digit {
			t.Errorf("Is with byte %d is not %t", c, digit)
		}
	}
}

// TestForm gives each call what is not a number, at each place, together with what causes its other errors.
func TestForm(t *testing.T) {
	two := map[string]func(a, b string) (string, api.Errno){"Add": wide.Add, "Sub": wide.Sub, "Mul": wide.Mul, "Gcd": wide.Gcd}
	for _, x := range notNumbers() {
		for name, call := range two {
			for _, c := range [][2]string{{x, "1"}, {"1", x}, {x, "0"}, {"0", x}, {x, x}, {x, nines(2000)}, {nines(2000), x}} {
				s, e := call(c[0], c[1])
				fails(t, name+" with "+short(x), s, e, api.ErrForm)
			}
		}
		for _, c := range [][2]string{{x, "1"}, {"1", x}, {x, "0"}, {x, x}} {
			q, r, e := wide.Div(c[0], c[1])
			fails(t, "Div with "+short(x), q+r, e, api.ErrForm)
			n, e := wide.Cmp(c[0], c[1])
			if n != 0 || e != api.ErrForm {
				t.Errorf("Cmp with %s: %d, error %d", short(x), n, e)
			}
		}
		for _, k := range []int{0, 1, 2, 1000, 1001, -1} {
			s, e := wide.Pow(x, k)
			fails(t, "Pow with "+short(x), s, e, api.ErrForm)
		}
	}
}

func TestFormInLists(t *testing.T) {
	long := make([]string, 1001)
	huge := make([]string, 20)
	for i := range long {
		long[i] = "1"
	}
	for i := range huge {
		huge[i] = nines(2000)
	}
	for _, x := range notNumbers() {
		long[1000], huge[19] = x, x
		for _, l := range [][]string{{x}, {"1", x}, {x, "1"}, {"1", x, "2"}, long, huge} {
			s, e := wide.Sum(l)
			fails(t, "Sum with "+short(x), s, e, api.ErrForm)
		}
		ragged := [][]string{{"1", "2"}, {"3"}, {"4", x}}
		tall := [][]string{{"1"}, {"1"}, {"1"}, {"1"}, {"1"}, {"1"}, {"1"}, {x}}
		large := [][]string{{nines(2000), "1", "0"}, {"0", nines(2000), "0"}, {"0", "0", x}}
		for _, m := range [][][]string{{{x}}, {{"1", "2"}, {"3", x}}, {{x, "2"}, {"3", "4"}}, {{"1"}, {x, "2"}}, {{"1", x}}, ragged, tall, large} {
			s, e := wide.Determinant(m)
			fails(t, "Determinant with "+short(x), s, e, api.ErrForm)
		}
	}
}

// TestArgumentsStay checks that lists are read only, and only as far as they go.
func TestArgumentsStay(t *testing.T) {
	l := []string{"1", "-5", "10", "x"}
	for range 2 {
		s, e := wide.Sum(l[:3])
		same(t, "Sum of a part", s, e, "6")
	}
	if got := strings.Join(l, " "); got != "1 -5 10 x" {
		t.Errorf("Sum changed its argument: %s", got)
	}
	a, b, c := []string{"0", "2", "x"}, []string{"3", "4", "x"}, []string{"x"}
	m := [][]string{a[:2], b[:2], c}
	for range 2 {
		s, e := wide.Determinant(m[:2])
		same(t, "Determinant of a part", s, e, "-6")
	}
	if got := strings.Join(append(append(a, b...), m[2]...), " "); got != "0 2 x 3 4 x x" {
		t.Errorf("Determinant changed its argument: %s", got)
	}
}
