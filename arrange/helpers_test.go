package arrange_test

import (
	"slices"
	"testing"

	"spokeshave/api"
	"spokeshave/arrange"
	"spokeshave/line"
	"spokeshave/plane"
	"spokeshave/ratio"
	"spokeshave/wide"
)

const (
	least    = -1 << 63
	greatest = 1<<63 - 1
	coord    = api.MaxCoord
	weight   = api.MaxWeight
)

// rolls gives numbers that look random and are the same in every run.
type rolls uint64

func (r *rolls) below(n int64) int64 {
	*r = *r*6364136223846793005 + 1442695040888963407
	high := uint64(*r) >> 32
	*r = *r*6364136223846793005 + 1442695040888963407
	return int64((high<<32 | uint64(*r)>>32) % uint64(n))
}

// within gives a number with an absolute value of at most limit.
func (r *rolls) within(limit int64) int64 {
	return r.below(2*limit+1) - limit
}

// planes gives a list of n planes whose normals and offsets are within limits, no two of them coincident.
func (r *rolls) planes(n int, normal, offset int64) []api.Plane {
	var l []api.Plane
	for len(l) < n {
		p, e := plane.Make(r.within(normal), r.within(normal), r.within(normal), r.within(offset))
		if e == api.OK && !slices.Contains(l, p) && !slices.Contains(l, opposite(p)) {
			l = append(l, p)
		}
	}
	return l
}

// near gives a list of n planes with the greatest coefficients, which are near to each other.
func (r *rolls) near(n int) []api.Plane {
	var l []api.Plane
	for len(l) < n {
		p := api.Plane{1000 - r.below(3), 1000 - r.below(3), 1000 - r.below(3), 1000000 - r.below(3)}
		for k := range p {
			p[k] *= 1 - 2*r.below(2)
		}
		if plane.Check(p) == api.OK && !slices.Contains(l, p) && !slices.Contains(l, opposite(p)) {
			l = append(l, p)
		}
	}
	return l
}

func opposite(p api.Plane) api.Plane {
	return api.Plane{-p[0], -p[1], -p[2], -p[3]}
}

// parallels are n planes that are all parallel, with normals in both directions.
func parallels(n int) []api.Plane {
	var l []api.Plane
	for i := range int64(n) {
		p := api.Plane{1, -2, 3, 7*i%int64(n) - 5}
		if i%3 == 1 {
			p = opposite(p)
		}
		l = append(l, p)
	}
	return l
}

// pencil are n planes that all contain one line.
func pencil(n int) []api.Plane {
	var l []api.Plane
	for i := range int64(n) {
		p, _ := plane.Make(i-3, 2, 7-i, 3*i-4)
		l = append(l, p)
	}
	return l
}

// prism are n planes that are all parallel to one line, no two of them parallel, and no three with one line.
func prism(n int) []api.Plane {
	var l []api.Plane
	for i := range int64(n) {
		p, _ := plane.Make(1, i, 1-i, i*i*i-50)
		l = append(l, p)
	}
	return l
}

// central are n planes that all contain one point, no three of them with one line.
func central(n int) []api.Plane {
	var l []api.Plane
	for i := range int64(n) {
		k := i - int64(n)/2
		p, _ := plane.Make(1, k, k*k, -2-3*k-4*k*k)
		l = append(l, p)
	}
	return l
}

// general are n planes of which any three meet in one corner, and no four in one: determinants of powers are not 0.
func general(n int) []api.Plane {
	var l []api.Plane
	for i := range int64(n) {
		k := i - int64(n)/2
		p, _ := plane.Make(1, k, k*k, k*k*k)
		l = append(l, p)
	}
	return l
}

// grid are the planes of boxes in rows.
func grid(x, y, z int) []api.Plane {
	var l []api.Plane
	for axis, n := range []int{x, y, z} {
		for i := range n {
			p := api.Plane{3: int64(-i)}
			p[axis] = 1
			l = append(l, p)
		}
	}
	return l
}

func cube() []api.Plane {
	return []api.Plane{{-1, 0, 0, 0}, {1, 0, 0, -1}, {0, -1, 0, 0}, {0, 1, 0, -1}, {0, 0, -1, 0}, {0, 0, 1, -1}}
}

// lists are those of planes, of all kinds, that have so few cells that all of them can be examined.
func lists() map[string][]api.Plane {
	r := rolls(1)
	octahedron := []api.Plane{{1, 1, 1, -1}, {1, 1, -1, -1}, {1, -1, 1, -1}, {1, -1, -1, -1}, {-1, 1, 1, -1}, {-1, 1, -1, -1}, {-1, -1, 1, -1}, {-1, -1, -1, -1}}
	l := map[string][]api.Plane{
		"none":                             nil,
		"one":                              {{2, -3, 5, 7}},
		"one of the greatest":              {{-1000, 999, 1000, -1000000}},
		"two parallel ones":                {{1, 0, 0, 0}, {1, 0, 0, -1}},
		"two parallel ones turned":         {{1, 0, 0, 0}, {-1, 0, 0, 1}},
		"two far apart":                    {{0, 1, 0, -1000000}, {0, 1, 0, 1000000}},
		"a thin layer":                     {{1000, 999, 998, 999999}, {1000, 999, 998, 1000000}},
		"parallel ones":                    parallels(8),
		"two that cross":                   {{1, 2, 3, 4}, {4, -3, 2, 1}},
		"two that nearly are parallel":     {{1000, 999, 998, 0}, {1000, 999, 997, 1}},
		"three with a line":                {{1, 0, 0, 0}, {0, 1, 0, 0}, {1, -1, 0, 0}},
		"a pencil":                         pencil(7),
		"a pencil along an axis":           {{1, 0, 0, 0}, {0, 1, 0, 0}, {1, 1, 0, 0}, {-1, 1, 0, 0}, {2, 1, 0, 0}},
		"a pencil and planes across":       append(pencil(4), api.Plane{1, 0, 0, 3}, api.Plane{0, 0, 1, 0}, api.Plane{1, 0, 1, 1}),
		"a pencil and one parallel to it":  append(pencil(4), api.Plane{-3, 2, 7, -5}),
		"a prism":                          prism(6),
		"a prism with parallel sides":      {{1, 0, 0, 0}, {1, 0, 0, -1}, {0, 1, 0, 0}, {0, 1, 0, -1}, {1, 1, 0, -1}, {1, -1, 0, 0}, {2, 1, 0, 5}},
		"a prism and a pencil":             append(prism(4), api.Plane{2, 1, 1, -99}, api.Plane{3, 7, -4, -100}),
		"a prism cut off":                  append(prism(4), api.Plane{1, 1, 1, 0}),
		"axes":                             {{1, 0, 0, 0}, {0, 1, 0, 0}, {0, 0, 1, 0}},
		"planes with a point":              central(6),
		"planes with a point and a pencil": {{1, 0, 0, 0}, {0, 1, 0, 0}, {0, 0, 1, 0}, {1, 1, 0, 0}, {1, -1, 0, 0}, {1, 1, 1, 0}, {0, 1, -1, 0}},
		"planes with a point and others":   append(central(4), api.Plane{1, 1, 0, 0}, api.Plane{0, 1, -1, 5}),
		"a cube":                           cube(),
		"a cube with diagonals":            append(cube(), api.Plane{1, -1, 0, 0}, api.Plane{1, 1, 0, -1}, api.Plane{1, 1, 1, -2}, api.Plane{0, 1, -1, 0}),
		"a tetrahedron":                    {{-1, 0, 0, 0}, {0, -1, 0, 0}, {0, 0, -1, 0}, {1, 1, 1, -1}},
		"a tetrahedron and a far plane":    {{-1, 0, 0, 0}, {0, -1, 0, 0}, {0, 0, -1, 0}, {1, 1, 1, -1}, {1, 1, 1, -1000000}},
		"an octahedron":                    octahedron,
		"a thin tetrahedron":               {{1000, 999, 998, 0}, {-1000, -999, -997, 0}, {0, 1, 0, -1000000}, {-999, -1000, 0, 1}},
		"boxes":                            grid(4, 2, 3),
		"planes in general":                general(8),
	}
	for i := range int64(4) {
		l["small ones "+wide.FromInt(i)] = r.planes(int(4+i), 1, 1)
		l["middling ones "+wide.FromInt(i)] = r.planes(int(5+i), 2, 2)
		l["any "+wide.FromInt(i)] = r.planes(int(4+i), api.MaxNormal, api.MaxOffset)
		l["the greatest "+wide.FromInt(i)] = r.near(int(4 + i))
	}
	return l
}

// long are lists of MaxPlanes planes.
func long() map[string][]api.Plane {
	r := rolls(2)
	return map[string][]api.Plane{
		"parallel ones":       parallels(40),
		"a pencil":            pencil(40),
		"a prism":             prism(40),
		"planes with a point": central(40),
		"boxes":               grid(14, 13, 13),
		"planes in general":   general(40),
		"any":                 r.planes(40, api.MaxNormal, api.MaxOffset),
		"middling ones":       r.planes(40, 4, 4),
		"the greatest":        r.near(40),
	}
}

// same checks a result that has no error.
func same[T comparable](t *testing.T, what string, got T, e api.Errno, want T) {
	t.Helper()
	if e != api.OK || got != want {
		t.Errorf("%s: %v, error %d, want %v", what, got, e, want)
	}
}

// sameList checks a list that has no error.
func sameList[T comparable](t *testing.T, what string, got []T, e api.Errno, want ...T) {
	t.Helper()
	if e != api.OK || !slices.Equal(got, want) {
		t.Errorf("%s: %v, error %d, want %v", what, got, e, want)
	}
}

// fails checks an error, next to which there is no result.
func fails[T comparable](t *testing.T, what string, got T, e, want api.Errno) {
	t.Helper()
	var none T
	if e != want || got != none {
		t.Errorf("%s: %v, error %d, want error %d", what, got, e, want)
	}
}

// failsList checks an error, next to which there is no list.
func failsList[T any](t *testing.T, what string, got []T, e, want api.Errno) {
	t.Helper()
	if e != want || len(got) != 0 {
		t.Errorf("%s: %v, error %d, want error %d", what, got, e, want)
	}
}

// value takes what a call returns that has no error.
func value[T any](t *testing.T, got T, e api.Errno) T {
	t.Helper()
	if e != api.OK {
		t.Fatalf("error %d", e)
	}
	return got
}

// cellsOf takes the cells of planes, also as a map.
func cellsOf(t *testing.T, planes []api.Plane) ([]string, map[string]bool) {
	t.Helper()
	l, e := arrange.Cells(planes)
	known := map[string]bool{}
	for _, s := range value(t, l, e) {
		known[s] = true
	}
	return l, known
}

// with returns s with another character at i.
func with(s string, i int, c byte) string {
	b := []byte(s)
	b[i] = c
	return string(b)
}

// turned returns s with the other sign at i.
func turned(s string, i int) string {
	if s[i] == '+' {
		return with(s, i, '-')
	}
	return with(s, i, '+')
}

// paperSide is the side of p on which the point with the coordinates x is, as a character, by package ratio.
func paperSide(t *testing.T, p api.Plane, x [3]string) byte {
	t.Helper()
	l := []string{wide.FromInt(p[3])}
	for i := range x {
		s, e := ratio.Mul(wide.FromInt(p[i]), x[i])
		l = append(l, value(t, s, e))
	}
	s, e := ratio.Sum(l)
	n, f := ratio.Cmp(value(t, s, e), "0")
	return "-0+"[value(t, n, f)+1]
}

// paperSigns is the sign string of the point with the coordinates x.
func paperSigns(t *testing.T, planes []api.Plane, x [3]string) string {
	t.Helper()
	var s []byte
	for _, p := range planes {
		s = append(s, paperSide(t, p, x))
	}
	return string(s)
}

// flats are the lines and the corners of planes, as sets of the planes that contain them; with each corner are the lines that contain it.
type flats struct {
	lines   map[uint64]bool
	corners map[uint64][]uint64
}

// flatsOf finds all lines by package line, and the corners on each of them.
func flatsOf(t *testing.T, planes []api.Plane) flats {
	t.Helper()
	f := flats{map[uint64]bool{}, map[uint64][]uint64{}}
	for i, p := range planes {
		for _, q := range planes[:i] {
			l, e := line.Pencil(p, q, planes)
			if e == api.ErrNone {
				continue
			}
			set := uint64(0)
			for _, k := range value(t, l, e) {
				set |= 1 << k
			}
			if f.lines[set] {
				continue
			}
			f.lines[set] = true
			points, e := line.Points(p, q, planes)
			for _, a := range value(t, points, e) {
				c := paperPlanes(t, planes, a)
				f.corners[c] = append(f.corners[c], set)
			}
		}
	}
	return f
}

// paperPlanes is the set of the planes that contain a.
func paperPlanes(t *testing.T, planes []api.Plane, a api.Point) uint64 {
	t.Helper()
	set := uint64(0)
	for k, p := range planes {
		side, e := plane.Side(p, a)
		if value(t, side, e) == 0 {
			set |= 1 << k
		}
	}
	return set
}

// numbers are how many cells there are, and how many bounded ones: by Zaslavsky's sums over the flats, each of which has the opposite of the sum of those that contain it.
func (f flats) numbers(n int) (cells, bounded int) {
	all, sum := 1+n, 1-n
	for l := range f.lines {
		all += ones(l) - 1
		sum += ones(l) - 1
	}
	for c, lines := range f.corners {
		part := 1 - ones(c)
		for _, l := range lines {
			part += ones(l) - 1
		}
		all += part
		sum -= part
	}
	if len(f.corners) == 0 {
		return all, 0
	}
	return all, -sum
}

// pieces is how many pieces plane i has: by the same sums in the plane.
func (f flats) pieces(i int) int {
	n := 1
	for l := range f.lines {
		n += int(l >> i & 1)
	}
	for c, lines := range f.corners {
		if c>>i&1 == 0 {
			continue
		}
		n--
		for _, l := range lines {
			n += int(l >> i & 1)
		}
	}
	return n
}

// segments is how many segments all lines have.
func (f flats) segments() int {
	n := len(f.lines)
	for _, lines := range f.corners {
		n += len(lines)
	}
	return n
}

func ones(set uint64) int {
	n := 0
	for ; set != 0; set &= set - 1 {
		n++
	}
	return n
}

// wrongPlanes are planes that are not right.
func wrongPlanes() []api.Plane {
	return []api.Plane{
		{}, {0, 0, 0, 1}, {1001, 0, 0, 1}, {1, -1001, 0, 0}, {0, 1, 1001, 0}, {1, 0, 0, 1000001}, {1, 0, 0, -1000001},
		{2, 0, 0, 0}, {0, 0, 1000, 0}, {2, 4, 6, 8}, {-5, 10, 0, 1000000},
		{least, 0, 0, 1}, {0, 1, least, 0}, {1, 0, 0, least}, {greatest, 1, 0, 0}, {least, least, least, least},
	}
}

// wrongPoints are points that are not right.
func wrongPoints() []api.Point {
	return []api.Point{
		{}, {1, 2, 3, 0}, {0, 0, 1, -1}, {1, 2, 3, -4}, {0, 0, 0, 2}, {0, 0, -6, 8}, {2, 4, -6, 8},
		{0, 0, coord + 1, 1}, {-coord - 1, 0, 0, 1}, {0, coord + 1, 0, 1}, {0, 0, 1, weight + 1},
		{1, 2, 3, greatest}, {0, 0, 1, least}, {least, 0, 0, 1}, {0, 0, least, 1}, {greatest, 0, 0, 1},
	}
}
