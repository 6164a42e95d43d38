package ratio_test

import (
	"testing"

	"spokeshave/api"
	"spokeshave/ratio"
)

// TestField is P2.5.
func TestField(t *testing.T) {
	var r rolls
	for i := range 150 {
		digits := 30
		if i%10 == 0 {
			digits = 300
		}
		a, b, c := r.ratio(t, digits), r.ratio(t, digits), r.ratio(t, digits)
		same(t, "a + b", add(t, a, b), api.OK, add(t, b, a))
		same(t, "a b", mul(t, a, b), api.OK, mul(t, b, a))
		same(t, "(a + b) + c", add(t, add(t, a, b), c), api.OK, add(t, a, add(t, b, c)))
		same(t, "(a b) c", mul(t, mul(t, a, b), c), api.OK, mul(t, a, mul(t, b, c)))
		same(t, "a (b + c)", mul(t, a, add(t, b, c)), api.OK, add(t, mul(t, a, b), mul(t, a, c)))
		same(t, "a (b - c)", mul(t, a, sub(t, b, c)), api.OK, sub(t, mul(t, a, b), mul(t, a, c)))
		same(t, "a - a", sub(t, a, a), api.OK, "0")
		same(t, "a + 0", add(t, a, "0"), api.OK, a)
		same(t, "1 a", mul(t, "1", a), api.OK, a)
		same(t, "a + b - b", sub(t, add(t, a, b), b), api.OK, a)
		if b != "0" {
			same(t, "b / b", div(t, b, b), api.OK, "1")
			same(t, "b (1 / b)", mul(t, b, div(t, "1", b)), api.OK, "1")
			same(t, "a b / b", div(t, mul(t, a, b), b), api.OK, a)
			same(t, "a / b", div(t, a, b), api.OK, mul(t, a, div(t, "1", b)))
		}
		for _, l := range [][]string{{a, b, c}, {c, a, b}, {b, c, a}} {
			same(t, "Sum", sum(t, l...), api.OK, add(t, add(t, a, b), c))
		}
	}
}

// TestOrderIsKept is what P2.5 says of the order.
func TestOrderIsKept(t *testing.T) {
	var r rolls
	for range 200 {
		a, b, c := r.ratio(t, 60), r.ratio(t, 60), r.ratio(t, 60)
		want := cmp(t, a, b)
		compared(t, add(t, a, c), add(t, b, c), want)
		compared(t, mul(t, a, c), mul(t, b, c), want*cmp(t, c, "0"))
		if cmp(t, sub(t, a, b), "0") != want {
			t.Errorf("Cmp of %s and %s is %d, but not that of the difference and 0", a, b, want)
		}
	}
}

// TestBetween is P2.6, and what P2.2 and P2.4 say of what lies between.
func TestBetween(t *testing.T) {
	var r rolls
	for i := range 120 {
		digits := 20
		if i%20 == 0 {
			digits = 600
		}
		a, b := r.ratio(t, digits), r.ratio(t, digits)
		if cmp(t, a, b) == 0 {
			same(t, "Middle of equal ones", middle(t, a, b), api.OK, a)
			continue
		}
		least, greatest, e := ratio.Least([]string{a, b})
		if e != api.OK {
			t.Fatalf("error %d", e)
		}
		half, plain := middle(t, a, b), simple(t, least, greatest)
		same(t, "twice the middle", add(t, half, half), api.OK, add(t, a, b))
		for _, x := range []string{half, plain} {
			if cmp(t, least, x) != -1 || cmp(t, x, greatest) != -1 || !ratio.Is(x) {
				t.Errorf("%s is not between %s and %s", short(x), short(least), short(greatest))
			}
		}
		_, den, _ := ratio.Parts(plain)
		_, bound, _ := ratio.Parts(half)
		if cmp(t, den, bound) > 0 {
			t.Errorf("Simple of %s and %s: %s, Middle: %s", short(least), short(greatest), short(plain), short(half))
		}
		same(t, "Simple turned", simple(t, turned(greatest), turned(least)), api.OK, turned(plain))
	}
}
