package ratio_test

import (
	"slices"
	"strings"
	"testing"

	"spokeshave/api"
	"spokeshave/ratio"
)

// notRatios are strings that R6 does not allow, or that are too long.
func notRatios() []string {
	return []string{
		"", "-", "/", "-/", "1/", "/2", "/", "//", "1//2", "1/2/3", "1/2/", "2/4", "-2/4", "6/3", "1/1", "0/1", "0/2", "0/0", "1/0", "-1/0", "2/2", "-3/1", "10/5", "5/10", "21/14",
		"1/-2", "-1/-2", "1/-1", "1/+2", "+1/2", "+1", "-+1/2", "--1/2", "-0", "-0/2", "01/2", "1/02", "-01/2", "00", "01", "1/00", "0x1/2",
		" 1/2", "1/2 ", "1 /2", "1/ 2", "1 2", "1/2\n", "\t1/2", "0.5", ".5", "1e3", "1/2e3", "1:2", "1\\2", "1,5", "a/b", "x", "1/x", "x/2", "½", "1\u20442", "\uff11/2", "\x00", "1/2\x00", "\xff/2", "NaN", "inf", "1/inf",
		nines(2001), "-" + nines(2001), ten(2000), nines(2001) + "/2", "-" + nines(2001) + "/2", "1/" + nines(2001), "1/" + ten(2000), ten(2000) + "/" + nines(2001),
		nines(2000) + "/" + nines(1000), nines(1000) + "/" + nines(2000), nines(2000) + "/" + nines(2000), ten(1999) + "/" + ten(1998), "0" + nines(1999), "1/0" + nines(1999),
		nines(1_000_000), "1/" + nines(1_000_000), strings.Repeat("/", 100_000),
	}
}

func ratios() []string {
	return []string{
		"0", "1", "-1", "7", "-12", "1/2", "-1/2", "2/3", "22/7", "-355/113", "9/10", "1000000000/999999999", "18446744073709551617/18446744073709551616",
		nines(2000), "-" + nines(2000), ten(1999), "1/" + nines(2000), "-1/" + nines(2000), nines(2000) + "/" + ten(1999), "-" + ten(1999) + "/" + nines(2000), nines(2000) + "/2", "-2/" + nines(2000),
	}
}

// TestIs is R6, as far as it is about rational numbers.
func TestIs(t *testing.T) {
	for _, a := range ratios() {
		if !ratio.Is(a) {
			t.Errorf("Is(%s) is false", short(a))
		}
	}
	for _, a := range notRatios() {
		if ratio.Is(a) {
			t.Errorf("Is(%s) is true", short(a))
		}
	}
	for c := range 256 {
		s := string([]byte{byte(c)})
		if digit := c >= '0' && c <= '9'; ratio.Is(s) != digit || ratio.Is("1"+s) != digit || ratio.Is("1/1"+s) != digit {
			t.Errorf("Is with byte %d is not %t", c, digit)
		}
	}
}

func TestIsLowestTerms(t *testing.T) {
	for num := -30; num <= 30; num++ {
		for den := -30; den <= 30; den++ {
			text := itoa(num) + "/" + itoa(den)
			want := den > 1 && pair{num, max(den, 1)}.text() == text
			if ratio.Is(text) != want {
				t.Errorf("Is(%s) is not %t", text, want)
			}
		}
	}
}

// TestForm gives each call what is not a ratio, at each place, together with what causes its other errors: ErrForm comes first.
func TestForm(t *testing.T) {
	two := map[string]func(a, b string) (string, api.Errno){"Add": ratio.Add, "Sub": ratio.Sub, "Mul": ratio.Mul, "Div": ratio.Div, "Middle": ratio.Middle, "Simple": ratio.Simple}
	for _, x := range notRatios() {
		for name, call := range two {
			for _, c := range [][2]string{{x, "1/2"}, {"1/2", x}, {x, "0"}, {"0", x}, {x, x}, {x, nines(2000)}, {nines(2000), x}, {x, "-" + nines(2000)}, {"1/" + nines(2000), x}} {
				s, e := call(c[0], c[1])
				fails(t, name+" with "+short(x), s, e, api.ErrForm)
			}
		}
		for _, c := range [][2]string{{x, "1"}, {"1/2", x}, {x, x}} {
			n, e := ratio.Cmp(c[0], c[1])
			if n != 0 || e != api.ErrForm {
				t.Errorf("Cmp with %s: %d, error %d", short(x), n, e)
			}
		}
		for _, places := range []int{0, 2, 100, 101, -1, -1 << 63, 1<<63 - 1} {
			s, e := ratio.Round(x, places)
			fails(t, "Round of "+short(x), s, e, api.ErrForm)
		}
		s, e := ratio.Floor(x)
		fails(t, "Floor of "+short(x), s, e, api.ErrForm)
		num, den, e := ratio.Parts(x)
		fails(t, "Parts of "+short(x), num+den, e, api.ErrForm)
	}
}

// TestFormOfMake: Make takes numbers, not ratios.
func TestFormOfMake(t *testing.T) {
	for _, x := range append(notRatios(), "1/2", "-7/3", "1/"+nines(2000)) {
		for _, c := range [][2]string{{x, "1"}, {x, "0"}, {"0", x}, {"1", x}, {x, x}, {nines(2000), x}} {
			s, e := ratio.Make(c[0], c[1])
			fails(t, "Make with "+short(x), s, e, api.ErrForm)
		}
	}
}

func TestFormInLists(t *testing.T) {
	long := slices.Repeat([]string{"1/3"}, 1001)
	huge := slices.Repeat([]string{nines(2000)}, 20)
	for _, x := range notRatios() {
		long[1000], huge[19] = x, x
		for _, l := range [][]string{{x}, {"1", x}, {x, "1"}, {"1/2", x, "2"}, long, huge} {
			s, e := ratio.Sum(l)
			fails(t, "Sum with "+short(x), s, e, api.ErrForm)
			least, greatest, e := ratio.Least(l)
			fails(t, "Least with "+short(x), least+greatest, e, api.ErrForm)
		}
	}
}

// TestArgumentsStay checks that lists are read only, and only as far as they go.
func TestArgumentsStay(t *testing.T) {
	l := []string{"2/3", "-5", "1/2", "1/7", "0", "x"}
	for range 2 {
		s, e := ratio.Sum(l[:5])
		same(t, "Sum of a part", s, e, "-155/42")
		least, greatest, e := ratio.Least(l[:5])
		same(t, "Least of a part", least+" "+greatest, e, "-5 2/3")
		s, e = ratio.Sum(l[:0])
		same(t, "Sum of an empty part", s, e, "0")
		least, greatest, e = ratio.Least(l[:0])
		fails(t, "Least of an empty part", least+greatest, e, api.ErrNone)
	}
	if got := strings.Join(l, " "); got != "2/3 -5 1/2 1/7 0 x" {
		t.Errorf("the argument has changed: %s", got)
	}
}
