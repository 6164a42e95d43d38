package arrange_test

import (
	"slices"
	"strings"
	"testing"

	"spokeshave/api"
	"spokeshave/arrange"
)

func TestCells(t *testing.T) {
	for _, c := range []struct {
		planes []api.Plane
		want   []string
	}{
		{nil, []string{""}},
		{[]api.Plane{}, []string{""}},
		{[]api.Plane{{1, 2, 3, 4}}, []string{"+", "-"}},
		{[]api.Plane{{1, 0, 0, 0}, {1, 0, 0, -1}}, []string{"++", "+-", "--"}},
		{[]api.Plane{{1, 0, 0, -1}, {1, 0, 0, 0}}, []string{"++", "-+", "--"}},
		{[]api.Plane{{1, 0, 0, 0}, {-1, 0, 0, 1}}, []string{"++", "+-", "-+"}},
		{[]api.Plane{{-1, 0, 0, 0}, {1, 0, 0, -1}}, []string{"+-", "-+", "--"}},
		{[]api.Plane{{1, 0, 0, 0}, {0, 1, 0, 0}}, []string{"++", "+-", "-+", "--"}},
		{[]api.Plane{{1, 0, 0, 0}, {0, 1, 0, 0}, {1, 1, 0, 0}}, []string{"+++", "+-+", "+--", "-++", "-+-", "---"}},
		{[]api.Plane{{1, 0, 0, 0}, {0, 1, 0, 0}, {1, 1, 0, -1}}, []string{"+++", "++-", "+-+", "+--", "-++", "-+-", "---"}},
		{[]api.Plane{{1, 0, 0, 0}, {0, 1, 0, 0}, {0, 0, 1, 0}}, []string{"+++", "++-", "+-+", "+--", "-++", "-+-", "--+", "---"}},
		{[]api.Plane{{1, 0, 0, 0}, {0, 1, 0, 0}, {0, 0, 1, 0}, {1, 1, 1, 0}}, []string{"++++", "++-+", "++--", "+-++", "+-+-", "+--+", "+---", "-+++", "-++-", "-+-+", "-+--", "--++", "--+-", "----"}},
	} {
		got, e := arrange.Cells(c.planes)
		sameList(t, "Cells", got, e, c.want...)
	}
	l, known := cellsOf(t, cube())
	if len(l) != 27 || !known["------"] || known["++----"] {
		t.Errorf("Cells of a cube: %v", l)
	}
}

// What is listed are cells, since a point is in each; and there are so many, none twice.
func TestCellsOfAllKinds(t *testing.T) {
	for name, planes := range lists() {
		l, known := cellsOf(t, planes)
		want, _ := flatsOf(t, planes).numbers(len(planes))
		if len(l) != want || len(known) != want || !slices.IsSorted(l) {
			t.Errorf("Cells of %s: %d, %d of them different, want %d", name, len(l), len(known), want)
		}
		for _, s := range l {
			x, e := arrange.Sample(planes, s)
			same(t, "the signs of a sample of "+name, paperSigns(t, planes, value(t, x, e)), e, s)
		}
	}
}

// IsCell says of all strings of signs whether they are listed.
func TestIsCell(t *testing.T) {
	for name, planes := range lists() {
		n := len(planes)
		_, known := cellsOf(t, planes)
		for k := range 1 << n {
			s := make([]byte, n)
			for i := range s {
				s[i] = "+-"[k>>i&1]
			}
			got, e := arrange.IsCell(planes, string(s))
			same(t, "IsCell of "+name+" and "+string(s), got, e, known[string(s)])
		}
	}
}

// noNames are strings that are not even made of signs, for cells with the names l.
func noNames(l []string) []string {
	bad := []string{"\x00", "0", "+0", "x", "é", "++é", "\xff", strings.Repeat("+", 41), strings.Repeat("-", 64), strings.Repeat("+", 65), strings.Repeat("-", 1<<20)}
	for _, s := range l {
		bad = append(bad, s+"+", s+"-", "-"+s, s+"0", s+" ", s+"\x00")
		for i := range s {
			bad = append(bad, s[:i], s[i+1:], with(s, i, '0'), with(s, i, ','), with(s, i, '.'), with(s, i, '*'), with(s, i, ' '), with(s, i, 0), with(s, i, 0xff), with(s, i, s[i]+128), s[:i]+"é"+s[i+1:])
		}
		// These have as many bytes as there are planes.
		if n := len(s); n > 1 {
			bad = append(bad, s[:n-2]+"é", "é"+s[2:])
		}
	}
	return bad
}

func TestStringsThatAreNoNames(t *testing.T) {
	for _, planes := range [][]api.Plane{nil, {{1, 2, 3, 4}}, {{1, 0, 0, 0}, {1, 0, 0, -1}}, {{1, 0, 0, 0}, {0, 1, 0, 0}, {0, 0, 1, 0}}, prism(4), central(4), cube()} {
		l, _ := cellsOf(t, planes)
		for _, s := range noNames(l) {
			if len(s) <= len(planes) && slices.Contains(l, s) {
				t.Fatalf("%q is a name", s)
			}
			isNoName(t, planes, s)
		}
	}
}

// Well-formed strings that name no cell.
func TestNamesOfNoCells(t *testing.T) {
	for name, planes := range lists() {
		_, known := cellsOf(t, planes)
		for s := range known {
			for i := range planes {
				if !known[turned(s, i)] {
					isNoName(t, planes, turned(s, i))
				}
			}
		}
		if name == "an octahedron" {
			isNoName(t, planes, strings.Repeat("+", 8))
		}
	}
	isNoName(t, parallels(40), strings.Repeat("+", 40))
	isNoName(t, grid(14, 13, 13), strings.Repeat("-+", 20))
}

// isNoName checks that s is not the name of a cell, for all functions that take one.
func isNoName(t *testing.T, planes []api.Plane, s string) {
	t.Helper()
	is, e := arrange.IsCell(planes, s)
	same(t, "IsCell of no name", is, e, false)
	withName(t, planes, s, api.ErrArg)
}

// withName calls the other functions that take a name, and checks that they return the error want.
func withName(t *testing.T, planes []api.Plane, s string, want api.Errno) {
	t.Helper()
	is, e := arrange.IsBounded(planes, s)
	fails(t, "IsBounded", is, e, want)
	x, e := arrange.Sample(planes, s)
	fails(t, "Sample", x, e, want)
	l, e := arrange.Neighbours(planes, s)
	failsList(t, "Neighbours", l, e, want)
	for _, x := range [][3]string{{"0", "0", "0"}, {"1/2", "-1/3", "7"}, {"", "", ""}, {"0", "0", "2/4"}} {
		is, e = arrange.At(planes, s, x)
		fails(t, "At", is, e, want)
	}
}

func TestIsBounded(t *testing.T) {
	for _, c := range []struct {
		planes []api.Plane
		s      string
		want   bool
	}{
		{nil, "", false},
		{[]api.Plane{{1, 0, 0, 0}}, "-", false},
		{[]api.Plane{{1, 0, 0, 0}, {1, 0, 0, -1}}, "+-", false},
		{cube(), "------", true}, {cube(), "+-----", false}, {cube(), "-----+", false}, {cube(), "-+-+-+", false},
		{cube()[:5], "-----", false},
		{cube()[:4], "----", false},
		{[]api.Plane{{-1, 0, 0, 0}, {0, -1, 0, 0}, {0, 0, -1, 0}, {1, 1, 1, -1}}, "----", true},
		{[]api.Plane{{-1, 0, 0, 0}, {0, -1, 0, 0}, {0, 0, -1, 0}, {1, 1, 1, -1}}, "---+", false},
		{[]api.Plane{{-1, 0, 0, 0}, {0, -1, 0, 0}, {0, 0, -1, 0}, {-1, 1, 1, -1}}, "----", false},
		{[]api.Plane{{-1, 0, 0, 0}, {0, -1, 0, 0}, {0, 0, -1, 0}, {0, 1, 1, -1}}, "----", false},
		// A thin needle: its top is far away. And one whose sides never meet.
		{[]api.Plane{{-1, 0, 0, 0}, {0, -1, 0, 0}, {1000, 0, 1, -1000000}, {0, 1000, 1, -1000000}, {0, 0, -1, -1000000}}, "-----", true},
		{[]api.Plane{{-1, 0, 0, 0}, {0, -1, 0, 0}, {1000, 0, 0, -1}, {0, 1000, 0, -1}, {0, 0, -1, -1000000}}, "-----", false},
		{[]api.Plane{{-1, 0, 0, 0}, {0, -1, 0, 0}, {1000, 0, 1, -1}, {0, 1000, -1, -1}, {0, 0, -1, -1000000}}, "-----", true},
	} {
		got, e := arrange.IsBounded(c.planes, c.s)
		same(t, "IsBounded of "+c.s, got, e, c.want)
	}
}

// hasNoEnd asks whether some line of two planes leads from a point of the cell to ever more of its points: if it is not bounded, and three planes meet in one point, then there is one.
func hasNoEnd(planes []api.Plane, s string) bool {
	for i, p := range planes {
		for _, q := range planes[:i] {
			d := [3]int64{p[1]*q[2] - p[2]*q[1], p[2]*q[0] - p[0]*q[2], p[0]*q[1] - p[1]*q[0]}
			if d != ([3]int64{}) && (isOpen(planes, s, d, 1) || isOpen(planes, s, d, -1)) {
				return true
			}
		}
	}
	return false
}

func isOpen(planes []api.Plane, s string, d [3]int64, way int64) bool {
	for i, p := range planes {
		change := way * (p[0]*d[0] + p[1]*d[1] + p[2]*d[2])
		if s[i] == '+' && change < 0 || s[i] == '-' && change > 0 {
			return false
		}
	}
	return true
}

func TestIsBoundedOfAllKinds(t *testing.T) {
	for name, planes := range lists() {
		f := flatsOf(t, planes)
		_, want := f.numbers(len(planes))
		l, _ := cellsOf(t, planes)
		found := 0
		for _, s := range l {
			got, e := arrange.IsBounded(planes, s)
			same(t, "IsBounded of "+name+" and "+s, got, e, len(f.corners) > 0 && !hasNoEnd(planes, s))
			if got {
				found++
			}
		}
		if found != want {
			t.Errorf("bounded cells of %s: %d, want %d", name, found, want)
		}
	}
}

func TestNeighbours(t *testing.T) {
	for _, c := range []struct {
		planes []api.Plane
		s      string
		want   []int
	}{
		{nil, "", nil},
		{[]api.Plane{{1, 0, 0, 0}}, "+", []int{0}},
		{[]api.Plane{{1, 0, 0, 0}, {1, 0, 0, -1}}, "++", []int{1}},
		{[]api.Plane{{1, 0, 0, 0}, {1, 0, 0, -1}}, "+-", []int{0, 1}},
		{[]api.Plane{{1, 0, 0, 0}, {1, 0, 0, -1}}, "--", []int{0}},
		{[]api.Plane{{1, 0, 0, 0}, {0, 1, 0, 0}, {1, 1, 0, 0}}, "+++", []int{0, 1}},
		{[]api.Plane{{1, 0, 0, 0}, {0, 1, 0, 0}, {1, 1, 0, 0}}, "+-+", []int{1, 2}},
		{[]api.Plane{{1, 0, 0, 0}, {0, 1, 0, 0}, {0, 0, 1, 0}}, "+-+", []int{0, 1, 2}},
		{cube(), "------", []int{0, 1, 2, 3, 4, 5}},
		{cube(), "+-----", []int{0, 2, 3, 4, 5}},
		{cube(), "+--+-+", []int{0, 3, 5}},
		// A plane that touches a cell in a corner alone, or in an edge, or not at all, does not bound it.
		{append(cube(), api.Plane{1, 1, 1, -3}), "-------", []int{0, 1, 2, 3, 4, 5}},
		{append(cube(), api.Plane{1, 1, 0, -2}), "-------", []int{0, 1, 2, 3, 4, 5}},
		{append(cube(), api.Plane{1, 1, 1, -4}), "-------", []int{0, 1, 2, 3, 4, 5}},
		{append(cube(), api.Plane{1000, 1000, 1000, -2999}), "-------", []int{0, 1, 2, 3, 4, 5, 6}},
		{append(cube(), api.Plane{1000, 1000, 1000, -2999}), "------+", []int{1, 3, 5, 6}},
	} {
		got, e := arrange.Neighbours(c.planes, c.s)
		sameList(t, "Neighbours of "+c.s, got, e, c.want...)
	}
}

// The neighbours are those whose names are listed.
func TestNeighboursOfAllKinds(t *testing.T) {
	fewest := 100
	for name, planes := range lists() {
		l, known := cellsOf(t, planes)
		for _, s := range l {
			var want []int
			for i := range planes {
				if known[turned(s, i)] {
					want = append(want, i)
				}
			}
			got, e := arrange.Neighbours(planes, s)
			sameList(t, "Neighbours of "+name+" and "+s, got, e, want...)
			if len(planes) > 4 {
				fewest = min(fewest, len(want))
			}
		}
	}
	if fewest != 1 {
		t.Errorf("no cell has less than %d neighbours", fewest)
	}
}

func TestSampleOfCells(t *testing.T) {
	for _, c := range []struct {
		planes []api.Plane
		s      string
	}{
		{nil, ""},
		{[]api.Plane{{1000, 999, 998, 999999}, {1000, 999, 998, 1000000}}, "-+"},
		{[]api.Plane{{1, 0, 0, -1000000}, {0, 1, 0, -1000000}, {0, 0, 1, -1000000}}, "+++"},
		{[]api.Plane{{1, 0, 0, -1000000}, {0, 1, 0, 1000000}}, "+-"},
		{[]api.Plane{{-1, 0, 0, 0}, {0, -1, 0, 0}, {0, 0, -1, 0}, {1000, 1000, 1000, -1}}, "----"},
		{[]api.Plane{{-1, 0, 0, 0}, {0, -1, 0, 0}, {0, 0, -1, 0}, {1000, 999, 998, -1}, {-999, -998, 1000, 1}}, "----+"},
		{[]api.Plane{{-1, 0, 0, 0}, {0, -1, 0, 0}, {1000, 0, 1, -1}, {0, 1000, -1, -1}, {0, 0, -1, -1000000}}, "-----"},
	} {
		x, e := arrange.Sample(c.planes, c.s)
		same(t, "the signs of a sample", paperSigns(t, c.planes, value(t, x, e)), e, c.s)
		again, e := arrange.Sample(c.planes, c.s)
		same(t, "Sample", again, e, x)
	}
}
