package ratio_test

import (
	"slices"
	"strconv"
	"strings"
	"testing"

	"spokeshave/api"
	"spokeshave/ratio"
)

// The tests of this file are of P2.1: what the sums, differences, products and quotients are.

func itoa(n int) string {
	return strconv.Itoa(n)
}

func TestMake(t *testing.T) {
	for _, c := range [][3]string{
		{"1", "2", "1/2"}, {"2", "4", "1/2"}, {"-2", "4", "-1/2"}, {"2", "-4", "-1/2"}, {"-2", "-4", "1/2"}, {"6", "3", "2"}, {"6", "-3", "-2"}, {"-6", "-3", "2"}, {"0", "5", "0"}, {"0", "-5", "0"},
		{"7", "1", "7"}, {"7", "-1", "-7"}, {"5", "5", "1"}, {"5", "-5", "-1"}, {"1", "-1", "-1"}, {"100000000000000000000", "40", "2500000000000000000"},
		{nines(2000), "1", nines(2000)}, {nines(2000), "-1", "-" + nines(2000)}, {"1", nines(2000), "1/" + nines(2000)}, {"1", "-" + nines(2000), "-1/" + nines(2000)},
		{nines(2000), nines(2000), "1"}, {"-" + nines(2000), nines(1000), "-" + ten(999) + "1"}, {ten(1999), "-" + nines(2000), "-" + ten(1999) + "/" + nines(2000)},
	} {
		s, e := ratio.Make(c[0], c[1])
		same(t, "Make of "+short(c[0])+" and "+short(c[1]), s, e, c[2])
	}
	for num := -30; num <= 30; num++ {
		for den := -30; den <= 30; den++ {
			s, e := ratio.Make(itoa(num), itoa(den))
			if den == 0 {
				fails(t, "Make with 0", s, e, api.ErrZero)
			} else {
				same(t, "Make", s, e, over(num, den).text())
			}
		}
	}
	s, e := ratio.Make(nines(2000), "0")
	fails(t, "Make with 0", s, e, api.ErrZero)
}

func TestParts(t *testing.T) {
	for _, c := range [][3]string{
		{"0", "0", "1"}, {"7", "7", "1"}, {"-7", "-7", "1"}, {"2/3", "2", "3"}, {"-2/3", "-2", "3"}, {nines(2000), nines(2000), "1"}, {"-" + nines(2000) + "/" + ten(1999), "-" + nines(2000), ten(1999)},
	} {
		num, den, e := ratio.Parts(c[0])
		same(t, "Parts of "+short(c[0]), num+" "+den, e, c[1]+" "+c[2])
		same(t, "Make of Parts", made(t, num, den), e, c[0])
	}
}

func TestSmallValues(t *testing.T) {
	all := pairs()
	for _, p := range all {
		for _, q := range all {
			a, b := p.text(), q.text()
			same(t, a+" + "+b, add(t, a, b), api.OK, pair{p.num*q.den + q.num*p.den, p.den * q.den}.text())
			same(t, a+" - "+b, sub(t, a, b), api.OK, pair{p.num*q.den - q.num*p.den, p.den * q.den}.text())
			same(t, a+" times "+b, mul(t, a, b), api.OK, pair{p.num * q.num, p.den * q.den}.text())
			s, e := ratio.Div(a, b)
			if q.num == 0 {
				fails(t, a+" by 0", s, e, api.ErrZero)
			} else {
				same(t, a+" by "+b, s, e, over(p.num*q.den, p.den*q.num).text())
			}
		}
	}
}

func TestValues(t *testing.T) {
	top, tiny := nines(2000), "1/"+nines(2000)
	for _, c := range [][3]string{
		{"1/2", "1/3", "5/6"}, {"1/2", "1/2", "1"}, {"-1/2", "1/2", "0"}, {"0", "-2/3", "-2/3"}, {"1/6", "1/10", "4/15"}, {"1/6", "1/3", "1/2"}, {"3/4", "-1/12", "2/3"},
		{top, "0", top}, {top, "-" + top, "0"}, {"-" + top, "1", "-" + nines(1999) + "8"}, {tiny, tiny, "2/" + top}, {tiny, "-" + tiny, "0"}, {tiny, "0", tiny},
		{"1/" + ten(1000), "1/" + ten(999), "11/" + ten(1000)}, {"1/" + ten(1999), "9/" + ten(1999), "1/" + ten(1998)}, {nines(1999), "1", ten(1999)},
		{"99999999999999999999/7", "1/7", "100000000000000000000/7"}, {nines(1998) + "/10", "1/10", ten(1997)}, {top + "/2", top + "/2", top},
	} {
		a, b, want := c[0], c[1], c[2]
		same(t, short(a)+" + "+short(b), add(t, a, b), api.OK, want)
		same(t, short(b)+" + "+short(a), add(t, b, a), api.OK, want)
		same(t, short(a)+" - "+short(turned(b)), sub(t, a, turned(b)), api.OK, want)
		same(t, short(want)+" - "+short(b), sub(t, want, b), api.OK, a)
	}
	for _, c := range [][3]string{
		{"1/2", "2/3", "1/3"}, {"-1/2", "2/3", "-1/3"}, {"-6/35", "-35/6", "1"}, {"0", "-2/3", "0"}, {"0", tiny, "0"}, {top, tiny, "1"}, {top, "-" + tiny, "-1"}, {top, "1", top}, {"-" + top, "-1", top},
		{ten(1999), "1/" + ten(1998), "10"}, {ten(999), ten(1000), ten(1999)}, {"1/" + ten(999), "1/" + ten(1000), "1/" + ten(1999)}, {top + "/" + ten(1999), ten(1999), top}, {top + "/2", "2/" + top, "1"},
	} {
		a, b, want := c[0], c[1], c[2]
		same(t, short(a)+" times "+short(b), mul(t, a, b), api.OK, want)
		same(t, short(b)+" times "+short(a), mul(t, b, a), api.OK, want)
		if b != "0" && a != "0" {
			same(t, short(want)+" by "+short(b), div(t, want, b), api.OK, a)
			same(t, short(want)+" by "+short(a), div(t, want, a), api.OK, b)
		}
	}
	for _, a := range ratios() {
		s, e := ratio.Div(a, "0")
		fails(t, "Div by 0", s, e, api.ErrZero)
	}
}

// TestLongBetween takes sums that are ratios, though what they are reckoned from has more than 2000 digits.
func TestLongBetween(t *testing.T) {
	var r rolls
	for range 12 {
		common := r.whole(1200) + "7"
		p, q := r.whole(700), r.whole(700)
		a, b := made(t, p, times(t, common, "3")), made(t, "-"+q, times(t, common, "11"))
		want := made(t, plus(t, times(t, p, "11"), "-"+times(t, q, "3")), times(t, common, "33"))
		same(t, "a sum", add(t, a, b), api.OK, want)
		same(t, "a difference", sub(t, want, b), api.OK, a)
		same(t, "a difference", sub(t, a, want), api.OK, turned(b))
	}
	den := nines(1000) + ten(999)
	for _, k := range []string{"1", "2", nines(900)} {
		a := made(t, nines(1999)+"7", den)
		b := made(t, plus(t, k, "-"+nines(1999)+"7"), den)
		same(t, "long numerators", add(t, a, b), api.OK, made(t, k, den))
	}
}

func TestTooLong(t *testing.T) {
	top, tiny := nines(2000), "1/"+nines(2000)
	for _, c := range [][2]string{{top, "1"}, {top, top}, {top, "1/2"}, {"1/2", "-" + top}, {tiny, "1/2"}, {tiny, "-1/" + ten(1999)}, {"1/" + ten(1000), "1/" + nines(1001)}, {top, tiny}, {top + "/2", "1/3"}} {
		s, e := ratio.Add(c[0], c[1])
		fails(t, "Add of "+short(c[0])+" and "+short(c[1]), s, e, api.ErrLarge)
		s, e = ratio.Add(turned(c[1]), turned(c[0]))
		fails(t, "Add of the opposites", s, e, api.ErrLarge)
		s, e = ratio.Sub(c[0], turned(c[1]))
		fails(t, "Sub", s, e, api.ErrLarge)
		s, e = ratio.Sum([]string{c[0], c[1]})
		fails(t, "Sum", s, e, api.ErrLarge)
	}
	for _, c := range [][2]string{{top, "2"}, {top, top}, {tiny, "1/2"}, {tiny, tiny}, {ten(1000), ten(1000)}, {"1/" + ten(1000), "-1/" + ten(1000)}, {top + "/2", top + "/2"}, {top, "-2/31"}, {"-" + top + "/" + ten(1999), "11/13"}} {
		s, e := ratio.Mul(c[0], c[1])
		fails(t, "Mul of "+short(c[0])+" and "+short(c[1]), s, e, api.ErrLarge)
		s, e = ratio.Mul(turned(c[1]), c[0])
		fails(t, "Mul", s, e, api.ErrLarge)
		num, den, _ := ratio.Parts(c[1])
		s, e = ratio.Div(c[0], made(t, den, num))
		fails(t, "Div", s, e, api.ErrLarge)
	}
	s, e := ratio.Div(top, tiny)
	fails(t, "Div", s, e, api.ErrLarge)
	s, e = ratio.Div("0", tiny)
	same(t, "Div of 0", s, e, "0")
}

func TestSum(t *testing.T) {
	third := slices.Repeat([]string{"1/3"}, 1000)
	steps := make([]string, 1000)
	for i := range steps {
		steps[i] = "1/" + itoa((i+1)*(i+2))
	}
	top := nines(2000)
	for _, c := range []struct {
		l    []string
		want string
	}{
		{nil, "0"}, {[]string{}, "0"}, {[]string{"0"}, "0"}, {[]string{"-2/3"}, "-2/3"}, {[]string{"1/2", "1/3", "1/6"}, "1"}, {[]string{"1/2", "-1/3", "-1/6"}, "0"}, {[]string{"5", "-1/4", "-1/4"}, "9/2"},
		{third, "1000/3"}, {third[:999], "333"}, {steps, "1000/1001"}, {[]string{top, top, "-" + top, "1/2", "-" + top}, "1/2"}, {[]string{top}, top}, {[]string{"1/" + top}, "1/" + top},
		{[]string{"1/" + top, "-1/" + ten(1999), "1/7", "1/" + ten(1999), "-1/" + top}, "1/7"},
		{slices.Repeat([]string{"1/" + ten(1999)}, 1000), "1/" + ten(1996)}, {slices.Repeat([]string{"-" + ten(1996)}, 1000), "-" + ten(1999)},
	} {
		same(t, "Sum", sum(t, c.l...), api.OK, c.want)
	}
}

// TestSumOfMany adds terms that all leave something in the denominator.
func TestSumOfMany(t *testing.T) {
	var l []string
	want := "0"
	for i := 1; i <= 300; i++ {
		l = append(l, made(t, itoa(i%7-3), itoa(i)))
		want = add(t, want, l[i-1])
	}
	var r rolls
	same(t, "Sum", sum(t, l...), api.OK, want)
	same(t, "Sum in another order", sum(t, r.shuffled(l)...), api.OK, want)
}

// TestSumComesBack takes terms whose sum has more and more digits, up to many thousands, until the last ones take them away again.
func TestSumComesBack(t *testing.T) {
	var r rolls
	points := make([]string, 31)
	for i := range points {
		points[i] = made(t, "1", r.whole(2)+strings.Repeat("3", 400)+r.whole(400)+"1")
	}
	l := make([]string, 30)
	for i := range l {
		l[i] = sub(t, points[i], points[i+1])
	}
	want := sub(t, points[0], points[30])
	for range 3 {
		same(t, "Sum of steps", sum(t, r.shuffled(l)...), api.OK, want)
	}
	var both []string
	for range 12 {
		a := made(t, r.whole(1990)+"1", "3"+r.whole(1990)+"7")
		both = append(both, a, turned(a))
	}
	same(t, "opposites", sum(t, r.shuffled(both)...), api.OK, "0")
	same(t, "opposites and one more", sum(t, r.shuffled(append(both, "-3/7"))...), api.OK, "-3/7")
}

// TestSumStays takes terms of which some go away again, while what is certain to stay is long, but only in some lists too long.
func TestSumStays(t *testing.T) {
	x, y, z := "1/"+ten(899)+"1", "1/"+ten(899)+"3", "1/"+ten(899)+"7"
	around := []string{sub(t, x, y), sub(t, y, z), sub(t, z, x)}
	for _, digits := range []int{1, 500, 1000, 1499, 1700, 1990} {
		stays := "2/1" + zeros(digits) + "9"
		same(t, "what stays", sum(t, append(around, stays)...), api.OK, stays)
		s, e := ratio.Sum(append(around, stays, "1/"+ten(1999-digits/2)))
		fails(t, "too much stays", s, e, api.ErrLarge)
	}
}

func TestSumFails(t *testing.T) {
	for _, n := range []int{1001, 1002, 5000} {
		for _, a := range []string{"0", "1/2", nines(2000), "1/" + nines(2000)} {
			s, e := ratio.Sum(slices.Repeat([]string{a}, n))
			fails(t, "Sum of "+itoa(n), s, e, api.ErrArg)
		}
	}
	s, e := ratio.Sum(slices.Repeat([]string{nines(2000)}, 1000))
	fails(t, "Sum of 1000 long ones", s, e, api.ErrLarge)
	s, e = ratio.Sum([]string{"1/" + nines(2000), "1/" + ten(1999), nines(2000)})
	fails(t, "Sum", s, e, api.ErrLarge)
	var r rolls
	many := make([]string, 1000)
	for i := range many {
		many[i] = made(t, r.whole(1900)+"1", "7"+r.whole(1900)+"3")
	}
	s, e = ratio.Sum(many)
	fails(t, "Sum of 1000 long different ones", s, e, api.ErrLarge)
}
