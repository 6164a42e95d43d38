package ratio_test

import (
	"testing"

	"spokeshave/api"
	"spokeshave/ratio"
)

// The tests of this file are of P2.4.

func TestSimple(t *testing.T) {
	top, tiny := nines(2000), "1/"+nines(2000)
	for _, c := range [][3]string{
		{"1/3", "1/2", "2/5"}, {"-1/2", "1/3", "0"}, {"0", "1", "1/2"}, {"0", "2", "1"}, {"1", "2", "3/2"}, {"1", "3", "2"}, {"1", "9", "2"}, {"1/2", "9", "1"}, {"0", "1/2", "1/3"}, {"0", "1/7", "1/8"}, {"0", "2/7", "1/4"},
		{"-1", "0", "-1/2"}, {"-9", "0", "-1"}, {"-9", "-1", "-2"}, {"-1/2", "-1/3", "-2/5"}, {"-2", "-1", "-3/2"}, {"-1", "1", "0"}, {"-7/2", "-5/2", "-3"}, {"5/2", "7/2", "3"}, {"-1/1000", "1/1000", "0"}, {"-9/2", "-1/2", "-1"},
		{"157/50", "63/20", "22/7"}, {"-63/20", "-157/50", "-22/7"}, {"333/106", "355/113", "688/219"},
		{"999999999999999999/1000000000000000000", "1", "1000000000000000000/1000000000000000001"},
		{"-" + top, top, "0"}, {"0", top, "1"}, {"-" + top, "0", "-1"}, {"1", top, "2"}, {"-" + tiny, tiny, "0"}, {tiny, top, "1"}, {tiny, "1", "1/2"},
		{tiny, "1/" + nines(1999) + "7", "1/" + nines(1999) + "8"}, {nines(1999) + "7", top, nines(1999) + "8"}, {"-" + top, "-" + nines(1999) + "7", "-" + nines(1999) + "8"},
		{ten(1998), ten(1997) + "1", "2" + zeros(1997) + "1/2"}, {"0", "1/" + ten(1998), "1/" + ten(1997) + "1"},
	} {
		same(t, "Simple of "+short(c[0])+" and "+short(c[1]), simple(t, c[0], c[1]), api.OK, c[2])
	}
}

// simplest tries one denominator after the other, and for each of them the numerators from 0 on, the greater one of two first.
func simplest(p, q pair) pair {
	for den := 1; ; den++ {
		for num := range 17*den + 1 {
			for _, n := range []int{num, -num} {
				if p.num*den < n*p.den && n*q.den < q.num*den {
					return pair{n, den}
				}
			}
		}
	}
}

func TestSimpleSmall(t *testing.T) {
	all := pairs()
	for _, p := range all {
		for _, q := range all {
			s, e := ratio.Simple(p.text(), q.text())
			if p.num*q.den >= q.num*p.den {
				fails(t, "Simple of "+p.text()+" and "+q.text(), s, e, api.ErrArg)
				continue
			}
			same(t, "Simple of "+p.text()+" and "+q.text(), s, e, simplest(p, q).text())
		}
	}
}

// TestSimpleOfNeighbours: between two neighbours the simplest ratio is the one whose numerator and denominator are the sums of theirs.
func TestSimpleOfNeighbours(t *testing.T) {
	for _, digits := range []int{2, 20, 200, 1990} {
		below, above := neighbours(t, digits)
		num, den, e := ratio.Parts(below)
		more, much, f := ratio.Parts(above)
		if e != api.OK || f != api.OK {
			t.Fatalf("errors %d and %d", e, f)
		}
		want := plus(t, num, more) + "/" + plus(t, den, much)
		same(t, "Simple of neighbours", simple(t, below, above), api.OK, want)
		same(t, "Simple of their opposites", simple(t, turned(above), turned(below)), api.OK, turned(want))
	}
}

func TestSimpleFails(t *testing.T) {
	for _, a := range rising() {
		s, e := ratio.Simple(a, a)
		fails(t, "Simple of "+short(a)+" twice", s, e, api.ErrArg)
	}
	top, tiny := nines(2000), "1/"+nines(2000)
	for _, c := range [][2]string{{"1", "0"}, {"1/2", "1/3"}, {"-1/3", "-1/2"}, {"0", "-" + tiny}, {top, "-" + top}, {top, nines(1999) + "8"}, {tiny, "0"}, {tiny, "-" + top}} {
		s, e := ratio.Simple(c[0], c[1])
		fails(t, "Simple of "+short(c[0])+" and "+short(c[1]), s, e, api.ErrArg)
	}
	for _, c := range [][2]string{{"0", tiny}, {nines(1999) + "8", top}, {tiny, "1/" + nines(1999) + "8"}, {nines(1999) + "8/" + top, "1"}, {"1", top + "/" + nines(1999) + "8"}} {
		s, e := ratio.Simple(c[0], c[1])
		fails(t, "Simple of "+short(c[0])+" and "+short(c[1]), s, e, api.ErrLarge)
		s, e = ratio.Simple(turned(c[1]), turned(c[0]))
		fails(t, "Simple of the opposites", s, e, api.ErrLarge)
	}
}
