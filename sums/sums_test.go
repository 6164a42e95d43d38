package sums_test

import (
	"testing"

	"spokeshave/api"
	"spokeshave/sums"
	"spokeshave/wide"
)

// rolls gives numbers that look random and are the same in every run.
type rolls uint64

func (r *rolls) word() uint64 {
	*r = *r*6364136223846793005 + 1442695040888963407
	high := uint64(*r) >> 32
	*r = *r*6364136223846793005 + 1442695040888963407
	return high<<32 | uint64(*r)>>32
}

// number gives one of any length up to 63 bits, with either sign.
func (r *rolls) number() int64 {
	n := int64(r.word() >> 1 >> (r.word() % 63))
	if r.word()%2 == 0 {
		return -n
	}
	return n
}

func calculated(t *testing.T, s string, e api.Errno) string {
	t.Helper()
	if e != api.OK {
		t.Fatalf("error %d", e)
	}
	return s
}

func times(t *testing.T, a, b string) string {
	t.Helper()
	s, e := wide.Mul(a, b)
	return calculated(t, s, e)
}

func plus(t *testing.T, a, b string) string {
	t.Helper()
	s, e := wide.Add(a, b)
	return calculated(t, s, e)
}

// read makes a sum of a number of package wide.
func read(t *testing.T, a string) sums.Sum {
	t.Helper()
	var words [3]int64
	for i := range words {
		q, r, e := wide.Div(a, wide.FromInt(1<<62))
		n, fits := wide.ToInt(calculated(t, r, e))
		if i == 2 {
			n, fits = wide.ToInt(a)
		}
		if !fits {
			t.Fatalf("%s", a)
		}
		words[i], a = n, q
	}
	return sums.Of(words[2]).Times(1 << 62).Plus(sums.Of(words[1])).Times(1 << 62).Plus(sums.Of(words[0]))
}

func TestTotalsOfProducts(t *testing.T) {
	r := rolls(1)
	for range 2000 {
		a, b, c, d := r.number(), r.number(), r.number(), r.number()
		left, right := times(t, wide.FromInt(a), wide.FromInt(b)), times(t, wide.FromInt(c), wide.FromInt(d))
		got := sums.Total(sums.Product(a, b), sums.Product(c, d), sums.Of(a))
		want := plus(t, plus(t, left, right), wide.FromInt(a))
		if got != read(t, want) {
			t.Errorf("%d * %d + %d * %d + %d: %v, want %s", a, b, c, d, a, got, want)
		}
		less := sums.Product(a, b).Minus(sums.Product(c, d))
		order, _ := wide.Cmp(left, right)
		if less.Sign() != order || less.Plus(sums.Product(c, d)) != sums.Product(a, b) {
			t.Errorf("%d * %d - %d * %d: %v", a, b, c, d, less)
		}
		if size := less.Size(); size.Sign() < 0 || size != less && size.Plus(less).Sign() != 0 {
			t.Errorf("the size of %v: %v", less, size)
		}
	}
	if sums.Total() != sums.Of(0) || sums.Of(0).Sign() != 0 || sums.Of(0).Size() != sums.Of(0) {
		t.Errorf("the sum of none is not 0")
	}
}

func TestInt(t *testing.T) {
	for _, n := range []int64{0, 1, -1, 1<<63 - 1, -1 << 63, 1 << 40} {
		if got, fits := sums.Of(n).Int(); got != n || !fits {
			t.Errorf("Int of %d: %d, %v", n, got, fits)
		}
	}
	for _, s := range []sums.Sum{sums.Product(1<<62, 2), sums.Of(-1 << 63).Minus(sums.Of(1)), sums.Product(1<<32, 1<<32), sums.Product(-1<<62, 1<<62)} {
		if got, fits := s.Int(); got != 0 || fits {
			t.Errorf("Int of %v: %d, %v", s, got, fits)
		}
	}
}

func TestDivisor(t *testing.T) {
	r := rolls(2)
	for range 3000 {
		k := sums.Product(r.number()|1, int64(r.word()%(1<<20)|1))
		a, b := int64(r.word()%(1<<31)), int64(r.word()%(1<<31))
		common, e := wide.Gcd(wide.FromInt(a), wide.FromInt(b))
		g, _ := wide.ToInt(calculated(t, common, e))
		if got := sums.Divisor(k.Times(a), k.Times(-b)); got != k.Size().Times(g) {
			t.Errorf("the divisor of %v times %d and %d: %v", k, a, b, got)
		}
		if g == 0 {
			continue
		}
		got, fits := sums.Lowest(k.Times(a), k.Times(-b), sums.Of(0))
		sign := int64(k.Sign())
		if !fits || len(got) != 3 || got[0] != sign*a/g || got[1] != -sign*b/g || got[2] != 0 {
			t.Errorf("the lowest of %v times %d and %d: %v", k, a, b, got)
		}
	}
}

func TestDivisorOfAnyNumbers(t *testing.T) {
	r := rolls(3)
	for range 2000 {
		a, b := times(t, wide.FromInt(r.number()), wide.FromInt(r.number())), times(t, wide.FromInt(r.number()), wide.FromInt(r.number()))
		want, e := wide.Gcd(a, b)
		if got := sums.Divisor(read(t, a), read(t, b)); got != read(t, calculated(t, want, e)) {
			t.Errorf("the divisor of %s and %s: %v, want %s", a, b, got, want)
		}
	}
}

// Numbers that are nearly equal, or nearly a power of 2, are those whose quotient is nearly another one.
func TestDivisorOfNearNumbers(t *testing.T) {
	for k := range 60 {
		for i := range int64(9) {
			for j := range int64(9) {
				near := plus(t, times(t, wide.FromInt(1<<62), wide.FromInt(1<<k)), wide.FromInt(i-4))
				far := plus(t, times(t, near, wide.FromInt(i/3+1)), wide.FromInt(j-4))
				want, e := wide.Gcd(near, far)
				g := read(t, calculated(t, want, e))
				if got := sums.Divisor(read(t, near), read(t, far)); got != g {
					t.Errorf("the divisor of %s and %s: %v, want %s", near, far, got, want)
				}
				if got := sums.Divisor(read(t, far), read(t, near)); got != g {
					t.Errorf("the divisor of %s and %s: %v, want %s", far, near, got, want)
				}
			}
		}
	}
}

func TestLowestOfLargeAndNone(t *testing.T) {
	if got, fits := sums.Lowest(sums.Product(1<<62, 6), sums.Of(7)); fits || len(got) != 0 {
		t.Errorf("the lowest of 6 * 2^62 and 7: %v", got)
	}
	if got, fits := sums.Lowest(sums.Of(0), sums.Of(0)); !fits || len(got) != 2 || got[0] != 0 || got[1] != 0 {
		t.Errorf("the lowest of 0 and 0: %v", got)
	}
	if got, fits := sums.Lowest(sums.Of(-1<<63), sums.Of(0)); !fits || got[0] != -1 {
		t.Errorf("the lowest of -2^63: %v", got)
	}
	if got, fits := sums.Lowest(sums.Of(-1<<63), sums.Of(1)); !fits || got[0] != -1<<63 || got[1] != 1 {
		t.Errorf("the lowest of -2^63 and 1: %v", got)
	}
	if sums.Divisor() != sums.Of(0) || sums.Divisor(sums.Of(0), sums.Of(-5)) != sums.Of(5) {
		t.Errorf("divisors of none, or 0")
	}
}

func TestText(t *testing.T) {
	r := rolls(4)
	for range 3000 {
		a := times(t, wide.FromInt(r.number()), wide.FromInt(r.number()))
		if got := read(t, a).Text(); got != a {
			t.Errorf("the text of %s: %s", a, got)
		}
	}
	for k := range 127 {
		a, e := wide.Pow("2", k)
		for _, b := range []string{"-1", "0", "1"} {
			n := plus(t, calculated(t, a, e), b)
			if got, turned := read(t, n).Text(), read(t, times(t, n, "-1")).Text(); got != n || turned != times(t, n, "-1") {
				t.Errorf("the texts of %s and its opposite: %s, %s", n, got, turned)
			}
		}
	}
	for k := range 39 {
		a, e := wide.Pow("10", k)
		if got := read(t, calculated(t, a, e)).Text(); got != a {
			t.Errorf("the text of %s: %s", a, got)
		}
	}
	lowest, e := wide.Pow("-2", 127)
	if got := read(t, calculated(t, lowest, e)).Text(); got != lowest {
		t.Errorf("the text of %s: %s", lowest, got)
	}
}

// Each sum of long ones is compared with its negative one, and with others of three words that are near to it.
func TestLong(t *testing.T) {
	r := rolls(5)
	for range 3000 {
		a, b := times(t, wide.FromInt(r.number()), wide.FromInt(r.number())), times(t, wide.FromInt(r.number()), wide.FromInt(r.number()))
		k, m := r.number(), r.number()
		if r.word()%3 == 0 {
			b, m = plus(t, a, wide.FromInt(r.number())), -k
		}
		want := plus(t, times(t, a, wide.FromInt(k)), times(t, b, wide.FromInt(m)))
		order, e := wide.Cmp(want, "0")
		if e != api.OK {
			t.Fatalf("error %d", e)
		}
		got := sums.LongTotal(read(t, a).Long(k), read(t, b).Long(m))
		if got.Sign() != order {
			t.Errorf("%s * %d + %s * %d: %v, want %s", a, k, b, m, got, want)
		}
		turned := sums.LongTotal(got, read(t, a).Long(-k), read(t, b).Long(-m))
		if turned != (sums.Long{}) || turned.Sign() != 0 {
			t.Errorf("%s * %d + %s * %d: what is left is %v", a, k, b, m, turned)
		}
	}
	top := sums.Product(1<<62, 1<<62)
	for _, k := range []int64{1, -1, 1<<63 - 1, -1 << 63} {
		one := sums.Of(1).Long(1)
		if k < 0 {
			one = sums.Of(-1).Long(1)
		}
		if got := sums.LongTotal(top.Long(k), top.Minus(sums.Of(1)).Times(-1).Long(k), sums.Of(k).Long(-1)); got.Sign() != 0 {
			t.Errorf("a difference of products with %d: %v", k, got)
		}
		if got := sums.LongTotal(top.Long(k), one); got.Sign() != one.Sign() {
			t.Errorf("the sign of a product with %d: %v", k, got)
		}
	}
	if sums.LongTotal() != (sums.Long{}) || sums.Of(0).Long(-5).Sign() != 0 {
		t.Errorf("the sum of none is not 0")
	}
}

func TestMinor(t *testing.T) {
	r := rolls(6)
	within := func() int64 { return r.number() >> 22 }
	for range 2000 {
		l := [3][4]int64{}
		for i := range l {
			l[i] = [4]int64{within(), within(), within(), within()}
			if i == 2 && r.word()%3 == 0 {
				l[2] = l[r.word()%2]
			}
		}
		for i, columns := range [][3]int{{1, 2, 3}, {2, 0, 3}, {0, 1, 3}, {0, 2, 1}, {3, 0, 1}, {1, 1, 2}} {
			var m [][]string
			for _, row := range l {
				m = append(m, []string{wide.FromInt(row[columns[0]]), wide.FromInt(row[columns[1]]), wide.FromInt(row[columns[2]])})
			}
			want, e := wide.Determinant(m)
			got := sums.Minor(columns[0], columns[1], columns[2], l[0], l[1], l[2])
			if got.Text() != calculated(t, want, e) {
				t.Errorf("the minor %v of %v: %s, want %s", columns, l, got.Text(), want)
			}
			if v := sums.Cross(l[0], l[1], l[2]); i < 3 && v[i] != got {
				t.Errorf("the minors of %v: %v", l, v)
			}
		}
	}
}
