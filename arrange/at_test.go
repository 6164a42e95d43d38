package arrange_test

import (
	"strings"
	"testing"

	"spokeshave/api"
	"spokeshave/arrange"
	"spokeshave/point"
	"spokeshave/ratio"
	"spokeshave/wide"
)

// nines are so many digits.
func nines(n int) string {
	return strings.Repeat("9", n)
}

func TestAt(t *testing.T) {
	x := []api.Plane{{1, 0, 0, 0}}
	layer := []api.Plane{{1, 0, 0, 0}, {1, 0, 0, -1}}
	tenth := "1" + strings.Repeat("0", 1990) + "1"
	skew := []api.Plane{{1000, -999, 0, 0}, {0, 7, 1000, -1000000}}
	for _, c := range []struct {
		planes []api.Plane
		s      string
		x      [3]string
		want   bool
	}{
		{nil, "", [3]string{"0", "0", "0"}, true},
		{nil, "", [3]string{"-" + nines(2000), nines(2000) + "/2", "1/" + nines(2000)}, true},
		{x, "+", [3]string{"1/2", "0", "0"}, true}, {x, "-", [3]string{"1/2", "0", "0"}, false},
		{x, "+", [3]string{"0", "5", "7"}, false}, {x, "-", [3]string{"0", "5", "7"}, false},
		{x, "-", [3]string{"-1/" + nines(2000), nines(2000), "0"}, true}, {x, "+", [3]string{"-1/" + nines(2000), nines(2000), "0"}, false},
		{x, "+", [3]string{"1/" + nines(2000), "-" + nines(2000), "0"}, true},
		{layer, "+-", [3]string{"1/3", "-1000000000000000000000", "2"}, true}, {layer, "+-", [3]string{"0", "0", "0"}, false}, {layer, "+-", [3]string{"1", "0", "0"}, false}, {layer, "++", [3]string{"1", "0", "0"}, false},
		{layer, "+-", [3]string{nines(1999) + "8/" + nines(2000), "0", "0"}, true}, {layer, "++", [3]string{nines(2000) + "/" + nines(1999) + "8", "0", "0"}, true},
		{layer, "--", [3]string{"-" + nines(30), "0", "0"}, true},
		// On the first of both planes, and next to it.
		{skew, "+-", [3]string{"999", "1000", "-" + nines(2000)}, false}, {skew, "--", [3]string{"999", "1000", "-" + nines(2000)}, false},
		{skew, "+-", [3]string{"999/" + tenth, "1000/" + tenth, "0"}, false}, {skew, "--", [3]string{"999/" + tenth, "1000/" + tenth, "0"}, false},
		{skew, "--", [3]string{"999", "1000" + strings.Repeat("0", 1990) + "1/1" + strings.Repeat("0", 1991), "0"}, true},
		{skew, "+-", [3]string{"999", strings.Repeat("9", 1994) + "/1" + strings.Repeat("0", 1991), "0"}, true},
		// The second plane with long numbers on both sides, which nearly are opposite.
		{skew, "+-", [3]string{"1" + strings.Repeat("0", 1998), "1" + strings.Repeat("0", 1998), "-7" + strings.Repeat("0", 1995)}, true},
		{skew, "++", [3]string{"1" + strings.Repeat("0", 1998), "1" + strings.Repeat("0", 1998), "-6" + nines(1991) + "8999"}, true},
		{skew, "+-", [3]string{"1" + strings.Repeat("0", 1998), "1" + strings.Repeat("0", 1998), "-6" + nines(1991) + "9000"}, false},
		{cube(), "------", [3]string{"1/2", "1/3", "1/5"}, true}, {cube(), "------", [3]string{"1/2", "1/3", "1"}, false}, {cube(), "------", [3]string{"1/2", "-1/3", "1/5"}, false}, {cube(), "--+---", [3]string{"1/2", "-1/3", "1/5"}, true},
	} {
		got, e := arrange.At(c.planes, c.s, c.x)
		same(t, "At of "+c.s, got, e, c.want)
	}
}

// The point is in the cell that its signs name, and in no other one.
func TestAtOfAllKinds(t *testing.T) {
	r := rolls(4)
	inside, on := 0, 0
	for name, planes := range lists() {
		l, known := cellsOf(t, planes)
		for _, x := range r.places(t, planes, 8) {
			s := paperSigns(t, planes, x)
			if known[s] {
				inside++
			} else {
				on++
			}
			for _, c := range l {
				got, e := arrange.At(planes, c, x)
				same(t, "At of "+name+" and "+c, got, e, c == s)
			}
		}
	}
	if inside < 100 || on < 50 {
		t.Errorf("%d points in cells, %d on planes", inside, on)
	}
}

// places gives coordinates near to the planes, on them, and far from them.
func (r *rolls) places(t *testing.T, planes []api.Plane, n int) [][3]string {
	t.Helper()
	var l [][3]string
	corners, e := arrange.Corners(planes)
	value(t, corners, e)
	for range n {
		var x [3]string
		for i := range x {
			s, e := ratio.Make(wide.FromInt(r.within(30)), wide.FromInt(1+r.below(5)))
			x[i] = value(t, s, e)
		}
		if len(corners) > 0 && r.below(2) == 0 {
			a, e := point.Coordinates(corners[r.below(int64(len(corners)))])
			x = value(t, a, e)
			i := r.below(3)
			s, f := ratio.Add(x[i], []string{"0", "1", "1/1000000000000000000000", "-1/999999999999999999999"}[r.below(4)])
			x[i] = value(t, s, f)
		}
		l = append(l, x)
	}
	return l
}

func TestCoordinatesThatAreNoRatios(t *testing.T) {
	for _, a := range []string{
		"", "-", "+1", "-0", "01", "00", " 1", "1 ", "x", "1.5", "1e3", "0x1", "½", "1/", "/2", "1/0", "1/1", "1/-2", "-1/-2", "2/4", "0/2", "-0/3", "1/02", "1/2/3", "6/3", "1//2", "\x00", "١",
		nines(2001), "-" + nines(2001), "1/" + nines(2001), nines(2001) + "/2", "1" + strings.Repeat("0", 2000), "-1/1" + strings.Repeat("0", 2000), strings.Repeat("0", 1<<20),
	} {
		for i := range 3 {
			x := [3]string{"0", "1/2", "-3"}
			x[i] = a
			for _, planes := range [][]api.Plane{nil, {{1, 0, 0, 0}}, cube()} {
				got, e := arrange.At(planes, strings.Repeat("-", len(planes)), x)
				fails(t, "At of "+a, got, e, api.ErrArg)
			}
		}
	}
}
