package ratio_test

import (
	"slices"
	"strings"
	"testing"

	"spokeshave/api"
	"spokeshave/ratio"
)

// The tests of this file are of P2.2: which of two is greater, and what lies below and between.

func sign(n int) int {
	return max(-1, min(1, n))
}

// compared checks Cmp both ways.
func compared(t *testing.T, a, b string, want int) {
	t.Helper()
	if cmp(t, a, b) != want || cmp(t, b, a) != -want {
		t.Errorf("Cmp of %s and %s: %d, and %d the other way", short(a), short(b), cmp(t, a, b), cmp(t, b, a))
	}
}

func TestSmallOrder(t *testing.T) {
	all := pairs()
	for _, p := range all {
		a := p.text()
		s, e := ratio.Floor(a)
		same(t, "Floor of "+a, s, e, itoa(floor(p.num, p.den)))
		for _, q := range all {
			b := q.text()
			compared(t, a, b, sign(p.num*q.den-q.num*p.den))
			same(t, "Middle of "+a+" and "+b, middle(t, a, b), api.OK, pair{p.num*q.den + q.num*p.den, 2 * p.den * q.den}.text())
		}
	}
}

// rising are ratios in order, many of them close to each other.
func rising() []string {
	top, next := nines(2000), nines(1999)+"8"
	return []string{
		"-" + top, "-" + next, "-" + top + "/2", "-" + ten(1999), "-1000001/1000000", "-1", "-" + next + "/" + top, "-999999/1000000", "-2/3", "-1/2", "-1/" + ten(1999), "-1/" + next, "-1/" + top,
		"0", "1/" + top, "1/" + next, "2/" + top, "1/" + ten(1999), "1/3", "1/2", "2/3", nines(1998) + "8/" + nines(1999), next + "/" + top,
		"1", top + "/" + next, nines(1999) + "/" + nines(1998) + "8", nines(1999) + "/2", ten(1999), top + "/2", next, top,
	}
}

func TestCmp(t *testing.T) {
	l := rising()
	for i, a := range l {
		for j, b := range l {
			compared(t, a, b, sign(i-j))
		}
	}
	below, above := neighbours(t, 1999)
	compared(t, below, above, -1)
	compared(t, turned(below), turned(above), 1)
	compared(t, div(t, "1", below), div(t, "1", above), 1)
}

// neighbours are two ratios with at least so many digits, of which the difference is 1 over the product of the denominators.
func neighbours(t *testing.T, digits int) (below, above string) {
	t.Helper()
	low, high := [2]string{"0", "1"}, [2]string{"1", "0"}
	for len(low[0]) < digits || len(low[1]) < digits {
		for i := range low {
			low[i] = plus(t, low[i], high[i])
			high[i] = plus(t, low[i], high[i])
		}
	}
	return made(t, low[0], low[1]), made(t, high[0], high[1])
}

func TestFloor(t *testing.T) {
	top := nines(2000)
	for _, c := range [][2]string{
		{"0", "0"}, {"7", "7"}, {"-7", "-7"}, {"1/2", "0"}, {"-1/2", "-1"}, {"7/2", "3"}, {"-7/2", "-4"}, {"999999999/1000000000", "0"}, {"-1000000001/1000000000", "-2"},
		{"1/" + top, "0"}, {"-1/" + top, "-1"}, {top, top}, {"-" + top, "-" + top}, {top + "/2", "4" + nines(1999)}, {"-" + top + "/2", "-5" + strings.Repeat("0", 1999)},
		{top + "/" + ten(1999), "9"}, {"-" + top + "/" + ten(1999), "-10"}, {top + "/" + ten(1000), nines(1000)}, {"-" + top + "/" + ten(1000), "-" + ten(1000)},
	} {
		s, e := ratio.Floor(c[0])
		same(t, "Floor of "+short(c[0]), s, e, c[1])
	}
}

func TestLeast(t *testing.T) {
	for _, l := range [][]string{nil, {}} {
		least, greatest, e := ratio.Least(l)
		fails(t, "Least of none", least+greatest, e, api.ErrNone)
	}
	for _, c := range []struct {
		l    []string
		want string
	}{
		{[]string{"-2/3"}, "-2/3 -2/3"}, {[]string{"0", "0"}, "0 0"}, {[]string{"1/2", "1/3"}, "1/3 1/2"}, {[]string{"1/3", "1/2"}, "1/3 1/2"}, {[]string{"-1/2", "-1/3", "-1/2"}, "-1/2 -1/3"},
		{[]string{"5", "1/2", "-7/3", "9/2", "-7/3", "5"}, "-7/3 5"}, {slices.Repeat([]string{"3/4", "2/3"}, 2000), "2/3 3/4"},
	} {
		least, greatest, e := ratio.Least(c.l)
		same(t, "Least", least+" "+greatest, e, c.want)
	}
	var r rolls
	l := rising()
	for range 5 {
		mixed := r.shuffled(rising())
		least, greatest, e := ratio.Least(mixed)
		same(t, "Least", least+" "+greatest, e, l[0]+" "+l[len(l)-1])
		some := mixed[:9]
		least, greatest, e = ratio.Least(some)
		places := make([]int, len(some))
		for i, a := range some {
			places[i] = slices.Index(l, a)
		}
		same(t, "Least of some", least+" "+greatest, e, l[slices.Min(places)]+" "+l[slices.Max(places)])
	}
}

func TestMiddle(t *testing.T) {
	top, next, tiny := nines(2000), nines(1999)+"8", "1/"+nines(2000)
	for _, c := range [][3]string{
		{"0", "0", "0"}, {"1", "2", "3/2"}, {"1", "3", "2"}, {"1/2", "1/3", "5/12"}, {"-1/2", "1/2", "0"}, {"1/6", "1/2", "1/3"}, {"2/3", "2/3", "2/3"}, {"-5", "2", "-3/2"},
		{top, top, top}, {top, "-" + top, "0"}, {"-" + top, "-" + top, "-" + top}, {top, "-1", "4" + nines(1999)}, {top, "1", "5" + strings.Repeat("0", 1999)}, {tiny, tiny, tiny}, {tiny, "-" + tiny, "0"}, {"0", "2/" + top, tiny},
		{top + "/2", "1/2", "25" + strings.Repeat("0", 1998)}, {next, "0", "4" + nines(1999)},
	} {
		s, e := ratio.Middle(c[0], c[1])
		same(t, "Middle of "+short(c[0])+" and "+short(c[1]), s, e, c[2])
		s, e = ratio.Middle(c[1], c[0])
		same(t, "Middle of "+short(c[1])+" and "+short(c[0]), s, e, c[2])
	}
	for _, c := range [][2]string{{top, next}, {"0", tiny}, {tiny, "1/" + ten(1999)}, {top, "1/2"}, {"-" + top, "-" + next}, {top + "/2", tiny}} {
		s, e := ratio.Middle(c[0], c[1])
		fails(t, "Middle of "+short(c[0])+" and "+short(c[1]), s, e, api.ErrLarge)
	}
}
