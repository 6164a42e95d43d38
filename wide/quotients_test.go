package wide_test

import (
	"testing"

	"spokeshave/api"
	"spokeshave/wide"
)

func div(t *testing.T, a, b string) (q, r string) {
	t.Helper()
	q, r, e := wide.Div(a, b)
	if e != api.OK {
		t.Fatalf("Div of %s by %s: error %d", short(a), short(b), e)
	}
	return q, r
}

func cmp(t *testing.T, a, b string) int {
	t.Helper()
	n, e := wide.Cmp(a, b)
	if e != api.OK {
		t.Fatalf("Cmp of %s and %s: error %d", short(a), short(b), e)
	}
	return n
}

func gcd(t *testing.T, a, b string) string {
	t.Helper()
	s, e := wide.Gcd(a, b)
	return value(t, s, e)
}

func TestDiv(t *testing.T) {
	for _, c := range [][4]string{
		{"0", "1", "0", "0"}, {"0", "-5", "0", "0"}, {"7", "2", "3", "1"}, {"-7", "2", "-4", "1"}, {"7", "-2", "-3", "1"}, {"-7", "-2", "4", "1"},
		{"6", "2", "3", "0"}, {"-6", "2", "-3", "0"}, {"6", "-2", "-3", "0"}, {"-6", "-2", "3", "0"},
		{"5", "10", "0", "5"}, {"5", "-10", "0", "5"}, {"-5", "10", "-1", "5"}, {"-5", "-10", "1", "5"}, {"-1", nines(2000), "-1", nines(1999) + "8"},
		{"1", "1", "1", "0"}, {"-1", "1", "-1", "0"}, {"1", "-1", "-1", "0"}, {nines(2000), "1", nines(2000), "0"}, {nines(2000), "-1", "-" + nines(2000), "0"},
		{"-" + nines(2000), nines(2000), "-1", "0"}, {ten(1999), nines(2000), "0", ten(1999)}, {nines(2000), ten(1999), "9", nines(1999)},
		{"-9223372036854775808", "-1", "9223372036854775808", "0"}, {"-9223372036854775808", "3", "-3074457345618258603", "1"},
		{"10000000000000000000000000000000000000000", "7", "1428571428571428571428571428571428571428", "4"},
		{"123456789012345678901234567890", "987654321098765", "124999998860937", "547854957125085"},
		// With words of nine digits a digit of these quotients is guessed wrong at first.
		{"500000001999999999000000000500000001", "500000001999999999500000000", "999999999", "500000001500000000000000001"},
		{"499999999000000000000000001999999998", "500000000000000000499999999", "999999997", "499999999500000004499999995"},
		{"500000000500000000000000000000000000", "499999999500000000999999999", "1000000001", "499999999500000000000000001"},
		{"1000000001999999999000000000", "1499999999999999999", "666666667", "1499999999666666667"},
	} {
		q, r := div(t, c[0], c[1])
		if q != c[2] || r != c[3] {
			t.Errorf("Div of %s by %s: %s, %s", short(c[0]), short(c[1]), short(q), short(r))
		}
	}
	for _, a := range numbers() {
		q, r, e := wide.Div(a, "0")
		fails(t, "Div by 0", q+r, e, api.ErrZero)
	}
}

// divided checks what P1.2 says of q and r, by the sums on paper.
func divided(t *testing.T, a, b string) {
	t.Helper()
	q, r := div(t, a, b)
	_, size := parts(b)
	negative, _ := parts(r)
	if negative || notLess(r, size) || paperSum(paperProduct(q, b), r) != a || !wide.Is(q) || !wide.Is(r) {
		t.Errorf("Div of %s by %s: %s, %s", short(a), short(b), short(q), short(r))
	}
}

func TestDivOnPaper(t *testing.T) {
	var r rolls
	for i := range 1500 {
		digits := 120
		if i%100 == 0 {
			digits = 2000
		}
		a, b := r.number(digits), r.number(digits/2)
		if b == "0" {
			continue
		}
		divided(t, a, b)
		product := paperProduct(b, r.number(digits/2))
		divided(t, product, b)
		divided(t, paperSum(product, "-1"), b)
		divided(t, paperSum(product, "1"), b)
	}
	for k := 1; k < 60; k++ {
		for i := 1; i < 60; i++ {
			divided(t, ten(k), nines(i))
			divided(t, "-"+nines(k), ten(i))
			divided(t, nines(k), "-"+ten(i)+"1")
		}
	}
}

func TestGcd(t *testing.T) {
	for _, c := range [][3]string{
		{"0", "0", "0"}, {"0", "5", "5"}, {"-5", "0", "5"}, {"-12", "18", "6"}, {"12", "-18", "6"}, {"-12", "-18", "6"}, {"7", "13", "1"}, {"-1", nines(2000), "1"},
		{"4", "4", "4"}, {"-4", "4", "4"}, {"3", "9", "3"}, {"36893488147419103232", "79228162514264337593543950336", "36893488147419103232"},
		{nines(2000), "-" + nines(2000), nines(2000)}, {nines(2000), "0", nines(2000)}, {"0", "-" + nines(2000), nines(2000)},
		{nines(1800), nines(1200), nines(600)}, {nines(1999), nines(2000), "9"}, {ten(1999), nines(2000), "1"}, {ten(1000), ten(1999), ten(1000)},
	} {
		same(t, "Gcd of "+short(c[0])+" and "+short(c[1]), gcd(t, c[0], c[1]), api.OK, c[2])
		same(t, "Gcd of "+short(c[1])+" and "+short(c[0]), gcd(t, c[1], c[0]), api.OK, c[2])
	}
}

// TestGcdFibonacci: those numbers need the most steps, and the common divisor of two of them is the one at the common divisor of their places.
func TestGcdFibonacci(t *testing.T) {
	l := []string{"0", "1"}
	for len(l) < 9001 {
		l = append(l, add(t, l[len(l)-1], l[len(l)-2]))
	}
	for _, c := range [][3]int{{9000, 8999, 1}, {9000, 6000, 3000}, {4000, 2400, 800}, {90, 60, 30}, {5040, 4410, 630}, {8192, 6144, 2048}} {
		same(t, "Gcd", gcd(t, l[c[0]], l[c[1]]), api.OK, l[c[2]])
		same(t, "Gcd", gcd(t, "-"+l[c[1]], l[c[0]]), api.OK, l[c[2]])
	}
}

func TestGcdOfProducts(t *testing.T) {
	var r rolls
	for range 300 {
		a, b, c := r.number(300), r.number(300), r.number(600)
		g := gcd(t, a, b)
		_, size := parts(c)
		same(t, "Gcd of a c and b c", gcd(t, mul(t, a, c), mul(t, b, c)), api.OK, mul(t, g, size))
		same(t, "Gcd of a and b + a c", gcd(t, a, add(t, b, mul(t, a, c))), api.OK, g)
		same(t, "Gcd of b and a", gcd(t, turned(b), a), api.OK, g)
		if g == "0" {
			continue
		}
		p, left := div(t, a, g)
		q, over := div(t, b, g)
		if left != "0" || over != "0" || gcd(t, p, q) != "1" {
			t.Errorf("Gcd of %s and %s: %s", short(a), short(b), short(g))
		}
	}
}

func TestCmp(t *testing.T) {
	rising := []string{
		"-" + nines(2000), "-" + nines(1999) + "8", "-" + ten(1999), "-" + nines(1999), "-18446744073709551616", "-1000000001", "-1000000000", "-999999999", "-10", "-9", "-1",
		"0", "1", "2", "9", "10", "11", "19", "20", "99", "100", "999999999", "1000000000", "1000000001", "2000000000", "18446744073709551615", "18446744073709551616",
		nines(1999), ten(1999), ten(1998) + "1", "1" + ten(1998), nines(1999) + "8", nines(2000),
	}
	for i, a := range rising {
		for j, b := range rising {
			want := 0
			if i < j {
				want = -1
			} else if i > j {
				want = 1
			}
			if got := cmp(t, a, b); got != want {
				t.Errorf("Cmp of %s and %s: %d", short(a), short(b), got)
			}
		}
	}
	var r rolls
	for range 300 {
		a, b := r.number(60), r.number(60)
		negative, size := parts(paperSum(a, turned(b)))
		want := 1
		if negative {
			want = -1
		} else if size == "0" {
			want = 0
		}
		if cmp(t, a, b) != want || cmp(t, b, a) != -want || cmp(t, a, a) != 0 {
			t.Errorf("Cmp of %s and %s is not %d", a, b, want)
		}
	}
}
