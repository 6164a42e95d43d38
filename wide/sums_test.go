package wide_test

import (
	"strings"
	"testing"

	"spokeshave/api"
	"spokeshave/wide"
)

func TestAddAndSub(t *testing.T) {
	for _, c := range [][3]string{
		{"0", "0", "0"}, {"0", "-7", "-7"}, {"7", "0", "7"}, {"2", "3", "5"}, {"-2", "-3", "-5"}, {"5", "-5", "0"}, {"-5", "5", "0"},
		{"3", "-5", "-2"}, {"-3", "5", "2"}, {"999999999", "1", "1000000000"}, {"1000000000", "-1", "999999999"},
		{"99999999999999999999", "1", "100000000000000000000"}, {"-100000000000000000000", "1", "-99999999999999999999"},
		{"18446744073709551615", "1", "18446744073709551616"}, {"9223372036854775807", "1", "9223372036854775808"},
		{"-9223372036854775808", "-1", "-9223372036854775809"}, {"1000000000000000000", "-1000000000", "999999999000000000"},
		{nines(2000), "0", nines(2000)}, {nines(1999), "1", ten(1999)}, {ten(1999), "-1", nines(1999)},
		{nines(2000), "-" + nines(2000), "0"}, {"-" + nines(2000), "1", "-" + nines(1999) + "8"},
	} {
		a, b, want := c[0], c[1], c[2]
		s, e := wide.Add(a, b)
		same(t, short(a)+" + "+short(b), s, e, want)
		s, e = wide.Add(b, a)
		same(t, short(b)+" + "+short(a), s, e, want)
		s, e = wide.Sub(a, turned(b))
		same(t, short(a)+" - "+short(turned(b)), s, e, want)
		s, e = wide.Sub(want, b)
		same(t, short(want)+" - "+short(b), s, e, a)
	}
}

func TestMul(t *testing.T) {
	for _, c := range [][3]string{
		{"0", "0", "0"}, {"0", "-7", "0"}, {"-3", "0", "0"}, {"1", "-7", "-7"}, {"-1", "-7", "7"}, {"-6", "7", "-42"}, {"6", "-7", "-42"},
		{"-6", "-7", "42"}, {"999999999", "999999999", "999999998000000001"}, {"4294967296", "4294967296", "18446744073709551616"},
		{"99999999999999999999", "99999999999999999999", "9999999999999999999800000000000000000001"},
		{"1000000000", "1000000000", "1000000000000000000"}, {ten(999), ten(1000), ten(1999)}, {nines(1000), nines(1000), nines(999) + "8" + strings.Repeat("0", 999) + "1"},
		{nines(2000), "-1", "-" + nines(2000)}, {nines(2000), "0", "0"}, {ten(1999), "9", "9" + strings.Repeat("0", 1999)},
	} {
		s, e := wide.Mul(c[0], c[1])
		same(t, short(c[0])+" times "+short(c[1]), s, e, c[2])
	}
}

// TestWordEdges takes numbers round each power of 10: a digit may be lost where words of digits meet.
func TestWordEdges(t *testing.T) {
	for k := 1; k < 80; k++ {
		same(t, "10^k - 1", sub(t, ten(k), "1"), api.OK, nines(k))
		same(t, "10^k - 1 + 1", add(t, nines(k), "1"), api.OK, ten(k))
		same(t, "10^k + 1 - 10^k", sub(t, add(t, ten(k), "1"), ten(k)), api.OK, "1")
		for i := 1; i < 40; i++ {
			a, b := ten(k-1)+"1", ten(i-1)+"1"
			same(t, a+" times "+b, mul(t, a, b), api.OK, paperProduct(a, b))
			same(t, nines(k)+" times "+nines(i), mul(t, nines(k), nines(i)), api.OK, paperProduct(nines(k), nines(i)))
		}
	}
}

func TestSumsOnPaper(t *testing.T) {
	var r rolls
	for i := range 600 {
		digits := 80
		if i%50 == 0 {
			digits = 1000
		}
		a, b := r.number(digits), r.number(digits)
		same(t, short(a)+" + "+short(b), add(t, a, b), api.OK, paperSum(a, b))
		same(t, short(a)+" - "+short(b), sub(t, a, b), api.OK, paperSum(a, turned(b)))
		same(t, short(a)+" times "+short(b), mul(t, a, b), api.OK, paperProduct(a, b))
	}
}

func TestTooLarge(t *testing.T) {
	top := nines(2000)
	for _, c := range [][2]string{{top, "1"}, {"1", top}, {top, top}, {ten(1999), nines(2000)}, {"5" + strings.Repeat("0", 1999), "5" + strings.Repeat("0", 1999)}} {
		s, e := wide.Add(c[0], c[1])
		fails(t, "Add", s, e, api.ErrLarge)
		s, e = wide.Add("-"+c[0], "-"+c[1])
		fails(t, "Add", s, e, api.ErrLarge)
		s, e = wide.Sub(c[0], "-"+c[1])
		fails(t, "Sub", s, e, api.ErrLarge)
		s, e = wide.Sub("-"+c[0], c[1])
		fails(t, "Sub", s, e, api.ErrLarge)
	}
	for _, c := range [][2]string{{ten(1000), ten(1000)}, {"-" + ten(1000), ten(1000)}, {ten(1999), "10"}, {"10", "-" + ten(1999)}, {top, "2"}, {top, top}, {"-" + top, "-" + top}} {
		s, e := wide.Mul(c[0], c[1])
		fails(t, "Mul", s, e, api.ErrLarge)
	}
}

func TestSum(t *testing.T) {
	many := make([]string, 1000)
	for i := range many {
		many[i] = wide.FromInt(int64(i + 1))
	}
	halves := []string{"5" + strings.Repeat("0", 1999), "-1", "5" + strings.Repeat("0", 1999)}
	for _, c := range []struct {
		l    []string
		want string
	}{
		{nil, "0"}, {[]string{}, "0"}, {[]string{"0"}, "0"}, {[]string{"-7"}, "-7"}, {[]string{"1", "-5", "10"}, "6"}, {[]string{"1", "-5", "4"}, "0"},
		{[]string{"3", "3", "3"}, "9"}, {many, "500500"}, {many[:999], "499500"}, {halves, nines(2000)},
		{[]string{nines(2000), nines(2000), "-" + nines(2000), "-" + nines(2000), "5"}, "5"},
		{[]string{"-" + nines(2000), "-1", "2"}, "-" + nines(1999) + "8"},
	} {
		s, e := wide.Sum(c.l)
		same(t, "Sum", s, e, c.want)
	}
	var r rolls
	for range 50 {
		l, want := make([]string, r.below(30)), "0"
		for i := range l {
			l[i] = r.number(60)
			want = paperSum(want, l[i])
		}
		s, e := wide.Sum(l)
		same(t, "Sum", s, e, want)
	}
}

func TestSumFails(t *testing.T) {
	many := make([]string, 1001)
	for i := range many {
		many[i] = "0"
	}
	s, e := wide.Sum(many)
	fails(t, "Sum of 1001", s, e, api.ErrArg)
	s, e = wide.Sum(append(many, many...))
	fails(t, "Sum of 2002", s, e, api.ErrArg)
	s, e = wide.Sum([]string{nines(2000), "1"})
	fails(t, "Sum", s, e, api.ErrLarge)
	s, e = wide.Sum([]string{"-1", "-" + nines(2000)})
	fails(t, "Sum", s, e, api.ErrLarge)
	for i := range many {
		many[i] = nines(2000)
	}
	s, e = wide.Sum(many)
	fails(t, "Sum of 1001 long ones", s, e, api.ErrArg)
	s, e = wide.Sum(many[:1000])
	fails(t, "Sum of 1000 long ones", s, e, api.ErrLarge)
}

func TestPow(t *testing.T) {
	for _, c := range []struct {
		a    string
		k    int
		want string
	}{
		{"0", 0, "1"}, {"0", 1, "0"}, {"0", 1000, "0"}, {"1", 0, "1"}, {"1", 1000, "1"}, {"-1", 0, "1"}, {"-1", 1, "-1"}, {"-1", 999, "-1"}, {"-1", 1000, "1"},
		{"-7", 0, "1"}, {"-7", 1, "-7"}, {"-7", 2, "49"}, {"-7", 3, "-343"}, {"2", 10, "1024"}, {"3", 7, "2187"}, {"2", 100, "1267650600228229401496703205376"},
		{"10", 1000, ten(1000)}, {"100", 999, ten(1998)}, {ten(1999), 1, ten(1999)}, {nines(2000), 0, "1"}, {"-" + nines(2000), 1, "-" + nines(2000)},
		{ten(999), 2, ten(1998)}, {ten(900), 2, ten(1800)}, {ten(600), 3, ten(1800)}, {"-" + ten(399), 5, "-" + ten(1995)},
	} {
		s, e := wide.Pow(c.a, c.k)
		same(t, "Pow of "+short(c.a), s, e, c.want)
	}
	for _, a := range []string{"2", "-3", "99", "-98", "31622776601683793319"} {
		want := "1"
		for k := range 102 {
			s, e := wide.Pow(a, k)
			same(t, "Pow of "+a, s, e, want)
			want = mul(t, want, a)
		}
	}
	s, e := wide.Pow("99", 1000)
	half, _ := wide.Pow("99", 500)
	same(t, "Pow of 99", s, e, mul(t, half, half))
}

func TestPowFails(t *testing.T) {
	for _, k := range []int{-1, -2, 1001, 1002, 1 << 20, -1 << 63, 1<<63 - 1} {
		for _, a := range []string{"0", "1", "-1", "2", "100", nines(2000)} {
			s, e := wide.Pow(a, k)
			fails(t, "Pow of "+short(a), s, e, api.ErrArg)
		}
	}
	for _, c := range []struct {
		a string
		k int
	}{{"100", 1000}, {"-100", 1000}, {"-100", 999 + 1}, {ten(1000), 2}, {ten(667), 3}, {nines(2000), 2}, {"-" + nines(2000), 1000}, {"1000", 667}} {
		s, e := wide.Pow(c.a, c.k)
		fails(t, "Pow of "+short(c.a), s, e, api.ErrLarge)
	}
}

// TestRing is P1.5.
func TestRing(t *testing.T) {
	var r rolls
	for range 200 {
		a, b, c := r.number(400), r.number(400), r.number(400)
		same(t, "a + b", add(t, a, b), api.OK, add(t, b, a))
		same(t, "a b", mul(t, a, b), api.OK, mul(t, b, a))
		same(t, "(a + b) + c", add(t, add(t, a, b), c), api.OK, add(t, a, add(t, b, c)))
		same(t, "(a b) c", mul(t, mul(t, a, b), c), api.OK, mul(t, a, mul(t, b, c)))
		same(t, "a (b + c)", mul(t, a, add(t, b, c)), api.OK, add(t, mul(t, a, b), mul(t, a, c)))
		same(t, "a (b - c)", mul(t, a, sub(t, b, c)), api.OK, sub(t, mul(t, a, b), mul(t, a, c)))
		same(t, "a - a", sub(t, a, a), api.OK, "0")
		same(t, "a + 0", add(t, a, "0"), api.OK, a)
		same(t, "1 a", mul(t, "1", a), api.OK, a)
		for _, l := range [][]string{{a, b, c}, {c, a, b}, {b, c, a}} {
			s, e := wide.Sum(l)
			same(t, "Sum", s, e, add(t, add(t, a, b), c))
		}
	}
}
