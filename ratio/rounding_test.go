package ratio_test

import (
	"strings"
	"testing"

	"spokeshave/api"
	"spokeshave/ratio"
)

// The tests of this file are of P2.3.

func zeros(k int) string {
	return strings.Repeat("0", k)
}

func TestRound(t *testing.T) {
	top := nines(2000)
	for _, c := range []struct {
		a      string
		places int
		want   string
	}{
		{"2/3", 3, "0.667"}, {"-1/1000", 2, "0.00"}, {"0", 0, "0"}, {"0", 3, "0.000"}, {"7", 0, "7"}, {"-7", 0, "-7"}, {"7", 2, "7.00"}, {"-7", 1, "-7.0"}, {"12345", 3, "12345.000"},
		{"1/2", 0, "0"}, {"-1/2", 0, "0"}, {"3/2", 0, "2"}, {"-3/2", 0, "-2"}, {"5/2", 0, "2"}, {"-5/2", 0, "-2"}, {"7/2", 0, "4"}, {"-7/2", 0, "-4"}, {"19/2", 0, "10"}, {"-21/2", 0, "-10"},
		{"1/20", 1, "0.0"}, {"3/20", 1, "0.2"}, {"-1/20", 1, "0.0"}, {"-3/20", 1, "-0.2"}, {"1/4", 1, "0.2"}, {"3/4", 1, "0.8"}, {"-1/8", 2, "-0.12"}, {"-3/8", 2, "-0.38"}, {"1999/2000", 3, "1.000"}, {"-1999/2000", 3, "-1.000"}, {"1997/2000", 3, "0.998"},
		{"1/3", 0, "0"}, {"2/3", 0, "1"}, {"-1/3", 0, "0"}, {"-2/3", 0, "-1"}, {"-1/3", 2, "-0.33"}, {"499999999/1000000000", 0, "0"}, {"500000001/1000000000", 0, "1"}, {"-500000001/1000000000", 0, "-1"},
		{"1/100", 1, "0.0"}, {"1/100", 2, "0.01"}, {"-1/100", 2, "-0.01"}, {"99/100", 1, "1.0"}, {"1/3", 100, "0." + strings.Repeat("3", 100)}, {"-2/3", 100, "-0." + strings.Repeat("6", 99) + "7"},
		{"1/" + ten(100), 100, "0." + zeros(99) + "1"}, {"1/" + ten(101), 100, "0." + zeros(100)}, {"-1/" + ten(1999), 100, "0." + zeros(100)}, {"6/" + ten(100) + "7", 100, "0." + zeros(99) + "1"},
		{"5/" + nines(101), 100, "0." + zeros(99) + "1"}, {"1/2" + zeros(100), 100, "0." + zeros(100)}, {"3/2" + zeros(100), 100, "0." + zeros(99) + "2"},
		{top, 0, top}, {"-" + top, 0, "-" + top}, {top, 100, top + "." + zeros(100)}, {"-" + top, 100, "-" + top + "." + zeros(100)}, {"1/" + top, 100, "0." + zeros(100)}, {top + "/2", 0, "5" + zeros(1999)}, {"-" + top + "/2", 100, "-4" + nines(1999) + ".5" + zeros(99)},
		{top + "/" + ten(1999), 100, "10." + zeros(100)}, {ten(1998) + "/" + top, 0, "0"}, {nines(1999) + "8/" + top, 0, "1"}, {nines(1999) + "8/" + top, 100, "1." + zeros(100)}, {ten(1999) + "/3", 100, strings.Repeat("3", 1999) + "." + strings.Repeat("3", 100)},
	} {
		s, e := ratio.Round(c.a, c.places)
		same(t, "Round of "+short(c.a)+" to "+itoa(c.places), s, e, c.want)
	}
}

// nearest rounds with the machine's integers.
func nearest(num, den int) int {
	q := floor(num, den)
	twice := 2 * (num - q*den)
	if twice > den || twice == den && q%2 != 0 {
		q++
	}
	return q
}

func TestRoundSmall(t *testing.T) {
	for places, power := range []int{1, 10, 100, 1000} {
		for den := 1; den <= 80; den++ {
			for num := -200; num <= 200; num++ {
				n := nearest(num*power, den)
				digits := itoa(max(n, -n))
				digits = zeros(max(0, places+1-len(digits))) + digits
				want := digits[:len(digits)-places]
				if places > 0 {
					want += "." + digits[len(digits)-places:]
				}
				if n < 0 {
					want = "-" + want
				}
				a := pair{num, den}.text()
				s, e := ratio.Round(a, places)
				same(t, "Round of "+a+" to "+itoa(places), s, e, want)
			}
		}
	}
}

// TestRoundLong checks that the difference is not more than half a unit of the last place.
func TestRoundLong(t *testing.T) {
	var r rolls
	for range 60 {
		a, places := r.ratio(t, 900), r.below(101)
		s, e := ratio.Round(a, places)
		digits := strings.TrimPrefix(value(t, s, e), "-")
		if places > 0 {
			whole, rest, cut := strings.Cut(digits, ".")
			if !cut || len(rest) != places || whole == "" {
				t.Errorf("Round of %s to %d: %s", short(a), places, short(s))
			}
		}
		digits = strings.TrimLeft(strings.Replace(digits, ".", "", 1), "0")
		n := "0"
		if digits != "" {
			n = digits
		}
		if strings.HasPrefix(s, "-") {
			n = "-" + n
		}
		off := mul(t, sub(t, mul(t, a, ten(places)), n), "2")
		if cmp(t, off, "1") > 0 || cmp(t, off, "-1") < 0 {
			t.Errorf("Round of %s to %d: %s", short(a), places, short(s))
		}
	}
}

func TestRoundFails(t *testing.T) {
	for _, places := range []int{-1, -2, 101, 102, 2000, -1 << 63, 1<<63 - 1} {
		for _, a := range []string{"0", "1/2", "-7", nines(2000), "1/" + nines(2000)} {
			s, e := ratio.Round(a, places)
			fails(t, "Round to "+itoa(places), s, e, api.ErrArg)
		}
	}
}
