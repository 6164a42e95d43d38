package boundary_test

import (
	"maps"
	"reflect"
	"slices"
	"strconv"
	"strings"
	"testing"

	"spokeshave/api"
	"spokeshave/arrange"
	"spokeshave/boundary"
	"spokeshave/plane"
)

const (
	least    = -1 << 63
	greatest = 1<<63 - 1
)

// set is what the calls are given.
type set struct {
	planes []api.Plane
	cells  []string
}

// rolls gives numbers that look random and are the same in every run.
type rolls uint64

func (r *rolls) below(n int64) int64 {
	*r = *r*6364136223846793005 + 1442695040888963407
	high := uint64(*r) >> 32
	*r = *r*6364136223846793005 + 1442695040888963407
	return int64((high<<32 | uint64(*r)>>32) % uint64(n))
}

// within gives a number with an absolute value of at most limit.
func (r *rolls) within(limit int64) int64 {
	return r.below(2*limit+1) - limit
}

// planes gives a list of n planes whose normals and offsets are within limits, no two of them coincident.
func (r *rolls) planes(n int, normal, offset int64) []api.Plane {
	return r.more(nil, n, normal, offset)
}

// more gives a list of planes with n more.
func (r *rolls) more(l []api.Plane, n int, normal, offset int64) []api.Plane {
	all := slices.Clone(l)
	for len(all) < len(l)+n {
		p, e := plane.Make(r.within(normal), r.within(normal), r.within(normal), r.within(offset))
		if e == api.OK && !slices.Contains(all, p) && !slices.Contains(all, opposite(p)) {
			all = append(all, p)
		}
	}
	return all
}

// some gives about so many of a hundred names.
func (r *rolls) some(names []string, percent int64) []string {
	var l []string
	for _, s := range names {
		if r.below(100) < percent {
			l = append(l, s)
		}
	}
	return l
}

// shuffled gives the names in another order.
func (r *rolls) shuffled(names []string) []string {
	l := slices.Clone(names)
	for i := range l {
		k := r.below(int64(i + 1))
		l[i], l[k] = l[k], l[i]
	}
	return l
}

func opposite(p api.Plane) api.Plane {
	return api.Plane{-p[0], -p[1], -p[2], -p[3]}
}

func cube() []api.Plane {
	return []api.Plane{{-1, 0, 0, 0}, {1, 0, 0, -1}, {0, -1, 0, 0}, {0, 1, 0, -1}, {0, 0, -1, 0}, {0, 0, 1, -1}}
}

// grid are the planes of boxes in rows, with their normals along the axes.
func grid(x, y, z int) []api.Plane {
	var l []api.Plane
	for axis, n := range []int{x, y, z} {
		for i := range n {
			p := api.Plane{3: int64(-i)}
			p[axis] = 1
			l = append(l, p)
		}
	}
	return l
}

// general are n planes of which any three meet in one corner, and no four in one.
func general(n int) []api.Plane {
	var l []api.Plane
	for i := range int64(n) {
		k := i - int64(n)/2
		p, _ := plane.Make(1, k, k*k, k*k*k)
		l = append(l, p)
	}
	return l
}

// parallels are n planes that are all parallel.
func parallels(n int) []api.Plane {
	var l []api.Plane
	for i := range int64(n) {
		l = append(l, api.Plane{1, -2, 3, 7*i%int64(n) - 5})
	}
	return l
}

// prism are n planes that are all parallel to one line, no two of them parallel.
func prism(n int) []api.Plane {
	var l []api.Plane
	for i := range int64(n) {
		p, _ := plane.Make(1, i, 1-i, i*i*i-50)
		l = append(l, p)
	}
	return l
}

// blocks is a set of cubes of length 1, which layers show from below, each with its rows along y and the cubes of a row along x.
func blocks(layers ...[]string) set {
	x, y, z := len(layers[0][0]), len(layers[0]), len(layers)
	s := set{planes: grid(x+1, y+1, z+1)}
	for k, layer := range layers {
		for j, row := range layer {
			for i, c := range row {
				if c == '#' {
					s.cells = append(s.cells, between(i, x)+between(j, y)+between(k, z))
				}
			}
		}
	}
	return s
}

// between is the signs of what is between plane i and the next one, of n + 1 parallel planes in a row.
func between(i, n int) string {
	return strings.Repeat("+", i+1) + strings.Repeat("-", n-i)
}

// where is the set of those bounded cells of planes in which all is right.
func where(t *testing.T, planes []api.Plane, isRight func(s string) bool) set {
	t.Helper()
	s := set{planes: planes}
	for _, name := range bounded(t, planes) {
		if isRight(name) {
			s.cells = append(s.cells, name)
		}
	}
	return s
}

// bounded are the names of all bounded cells.
func bounded(t *testing.T, planes []api.Plane) []string {
	t.Helper()
	var l []string
	for _, s := range cellsOf(t, planes) {
		is, e := arrange.IsBounded(planes, s)
		if value(t, is, e) {
			l = append(l, s)
		}
	}
	return l
}

func cellsOf(t *testing.T, planes []api.Plane) []string {
	t.Helper()
	l, e := arrange.Cells(planes)
	return value(t, l, e)
}

// with returns s with another character at i.
func with(s string, i int, c string) string {
	return s[:i] + c + s[i+1:]
}

// points are integer points, three coordinates each.
func points(l ...int64) []api.Point {
	var all []api.Point
	for i := 0; i < len(l); i += 3 {
		all = append(all, api.Point{l[i], l[i+1], l[i+2], 1})
	}
	return all
}

// value takes what a call returns that has no error.
func value[T any](t *testing.T, got T, e api.Errno) T {
	t.Helper()
	if e != api.OK {
		t.Fatalf("error %d", e)
	}
	return got
}

// same checks a result that has no error. What is empty is the same as nil.
func same(t *testing.T, what string, got any, e api.Errno, want any) {
	t.Helper()
	if v := reflect.ValueOf(got); v.Kind() == reflect.Slice && v.Len() == 0 && reflect.ValueOf(want).Len() == 0 && e == api.OK {
		return
	}
	if e != api.OK || !reflect.DeepEqual(got, want) {
		t.Errorf("%s: %v, error %d, want %v", what, got, e, want)
	}
}

// hasNoFaces checks a solid that is empty.
func hasNoFaces(t *testing.T, what string, got api.Solid, e, want api.Errno) {
	t.Helper()
	if e != want || len(got.Faces) != 0 {
		t.Errorf("%s: %v, error %d, want error %d", what, got, e, want)
	}
}

// fails checks that a list is empty next to an error.
func fails[T any](t *testing.T, what string, got []T, e, want api.Errno) {
	t.Helper()
	if e != want || len(got) != 0 {
		t.Errorf("%s: %v, error %d, want error %d", what, got, e, want)
	}
}

// face takes the only face on the plane i or on its opposite.
func (s set) face(t *testing.T, i int, outer bool) api.Face {
	t.Helper()
	l, e := boundary.Faces(s.planes, s.cells, i, outer)
	if len(value(t, l, e)) != 1 {
		t.Fatalf("%d faces", len(l))
	}
	return l[0]
}

// solid takes the solid of a set.
func (s set) solid(t *testing.T) api.Solid {
	t.Helper()
	solid, e := boundary.Make(s.planes, s.cells)
	return value(t, solid, e)
}

// numbers are how many corners, pairs of edges, loops and faces a solid has.
func (s set) numbers(t *testing.T) [4]int {
	t.Helper()
	corners, e := boundary.Corners(s.planes, s.cells)
	value(t, corners, e)
	edges, e := boundary.Edges(s.planes, s.cells)
	value(t, edges, e)
	faces := s.solid(t).Faces
	loops := 0
	for _, f := range faces {
		loops += len(f.Loops)
	}
	return [4]int{len(corners), len(edges) / 2, loops, len(faces)}
}

// lists are those of planes, of many kinds, that have some bounded cells, and few enough of them to examine all.
func lists() map[string][]api.Plane {
	r := rolls(1)
	l := map[string][]api.Plane{
		"a cube":                       cube(),
		"a cube with diagonals":        append(cube(), api.Plane{1, -1, 0, 0}, api.Plane{1, 1, 0, -1}, api.Plane{1, 1, 1, -2}, api.Plane{0, 1, -1, 0}),
		"a tetrahedron":                {{-1, 0, 0, 0}, {0, -1, 0, 0}, {0, 0, -1, 0}, {1, 1, 1, -1}},
		"an octahedron":                {{1, 1, 1, -1}, {1, 1, -1, -1}, {1, -1, 1, -1}, {1, -1, -1, -1}, {-1, 1, 1, -1}, {-1, 1, -1, -1}, {-1, -1, 1, -1}, {-1, -1, -1, -1}},
		"boxes":                        grid(4, 3, 3),
		"flat boxes":                   grid(5, 5, 2),
		"planes in general":            general(7),
		"a star":                       {{1, 0, 0, 0}, {0, 1, 0, 0}, {1, 1, 0, 0}, {1, -1, 0, 0}, {1, 0, 0, -2}, {1, 0, 0, 2}, {0, 1, 0, -2}, {0, 1, 0, 2}, {0, 0, 1, 0}, {0, 0, 1, -1}},
		"pyramids round a point":       {{1, 0, 1, 0}, {1, 0, -1, 0}, {0, 1, 1, 0}, {0, 1, -1, 0}, {0, 0, 1, -3}, {0, 0, 1, 3}},
		"a pencil between two planes":  {{1, 0, 0, 0}, {0, 1, 0, 0}, {1, 1, 0, 0}, {1, -2, 0, 0}, {1, 3, 1, -4}, {1, 0, 0, 5}, {0, 0, 1, 2}, {3, 1, -1, -6}},
		"cut corners":                  append(grid(3, 3, 2), api.Plane{1, 1, 0, -1}, api.Plane{1, 1, 0, -3}),
		"a point that is on all sides": {{1, 0, 0, 0}, {0, 1, 0, 0}, {0, 0, 1, 0}, {1, 1, 1, -1}, {1, 1, -1, 1}, {1, -1, 1, 1}, {-1, 1, 1, 1}},
	}
	for i := range int64(4) {
		l["small ones "+strconv.FormatInt(i, 10)] = r.planes(int(7+i), 1, 1)
		l["middling ones "+strconv.FormatInt(i, 10)] = r.planes(int(5+i), 2, 2)
		l["wide ones "+strconv.FormatInt(i, 10)] = r.planes(int(5+i), 4, 9)
	}
	return l
}

// sets are some of the bounded cells of each list, and all of them.
func sets(t *testing.T) map[string]set {
	t.Helper()
	r := rolls(2)
	all := lists()
	l := map[string]set{}
	for _, name := range slices.Sorted(maps.Keys(all)) {
		cells := bounded(t, all[name])
		for _, percent := range []int64{15, 40, 50, 60, 85, 100} {
			l[name+", "+strconv.FormatInt(percent, 10)+" of 100"] = set{all[name], r.shuffled(r.some(cells, percent))}
		}
	}
	return l
}

// wrongPlanes are planes that are not right.
func wrongPlanes() []api.Plane {
	return []api.Plane{
		{}, {0, 0, 0, 1}, {1001, 0, 0, 1}, {1, -1001, 0, 0}, {0, 1, 1001, 0}, {1, 0, 0, 1000001}, {1, 0, 0, -1000001},
		{2, 0, 0, 0}, {2, 4, 6, 8}, {-5, 10, 0, 1000000},
		{least, 0, 0, 1}, {1, 0, 0, least}, {greatest, 1, 0, 0}, {least, least, least, least},
	}
}
