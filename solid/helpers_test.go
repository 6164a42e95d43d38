package solid_test

import (
	"cmp"
	"maps"
	"reflect"
	"slices"
	"strconv"
	"strings"
	"testing"

	"spokeshave/api"
	"spokeshave/arrange"
	"spokeshave/boundary"
	"spokeshave/plane"
	"spokeshave/point"
	"spokeshave/solid"
)

const (
	least    = -1 << 63
	greatest = 1<<63 - 1
)

// set is cells of planes.
type set struct {
	planes []api.Plane
	cells  []string
}

// rolls gives numbers that look random and are the same in every run.
type rolls uint64

func (r *rolls) below(n int64) int64 {
	*r = *r*6364136223846793005 + 1442695040888963407
	high := uint64(*r) >> 32
	*r = *r*6364136223846793005 + 1442695040888963407
	return int64((high<<32 | uint64(*r)>>32) % uint64(n))
}

// within gives a number with an absolute value of at most limit.
func (r *rolls) within(limit int64) int64 {
	return r.below(2*limit+1) - limit
}

// more gives a list of planes with n more, whose normals and offsets are within limits, no two of them coincident.
func (r *rolls) more(l []api.Plane, n int, normal, offset int64) []api.Plane {
	all := slices.Clone(l)
	for len(all) < len(l)+n {
		p, e := plane.Make(r.within(normal), r.within(normal), r.within(normal), r.within(offset))
		if e == api.OK && !slices.Contains(all, p) && !slices.Contains(all, opposite(p)) {
			all = append(all, p)
		}
	}
	return all
}

// some gives about so many of a hundred names.
func (r *rolls) some(names []string, percent int64) []string {
	var l []string
	for _, s := range names {
		if r.below(100) < percent {
			l = append(l, s)
		}
	}
	return l
}

func shuffled[T any](r *rolls, l []T) []T {
	l = slices.Clone(l)
	for i := range l {
		k := r.below(int64(i + 1))
		l[i], l[k] = l[k], l[i]
	}
	return l
}

func opposite(p api.Plane) api.Plane {
	return api.Plane{-p[0], -p[1], -p[2], -p[3]}
}

func cube() []api.Plane {
	return []api.Plane{{-1, 0, 0, 0}, {1, 0, 0, -1}, {0, -1, 0, 0}, {0, 1, 0, -1}, {0, 0, -1, 0}, {0, 0, 1, -1}}
}

// grid are the planes of boxes in rows, with their normals along the axes.
func grid(x, y, z int) []api.Plane {
	var l []api.Plane
	for axis, n := range []int{x, y, z} {
		for i := range n {
			p := api.Plane{3: int64(-i)}
			p[axis] = 1
			l = append(l, p)
		}
	}
	return l
}

// general are n planes of which any three meet in one corner, and no four in one.
func general(n int) []api.Plane {
	var l []api.Plane
	for i := range int64(n) {
		k := i - int64(n)/2
		p, _ := plane.Make(1, k, k*k, k*k*k)
		l = append(l, p)
	}
	return l
}

// blocks is a set of cubes of length 1, which layers show from below, each with its rows along y and the cubes of a row along x.
func blocks(layers ...[]string) set {
	x, y, z := len(layers[0][0]), len(layers[0]), len(layers)
	s := set{planes: grid(x+1, y+1, z+1)}
	for k, layer := range layers {
		for j, row := range layer {
			for i, c := range row {
				if c == '#' {
					s.cells = append(s.cells, between(i, x)+between(j, y)+between(k, z))
				}
			}
		}
	}
	return s
}

// between is the signs of what is between plane i and the next one, of n + 1 parallel planes in a row.
func between(i, n int) string {
	return strings.Repeat("+", i+1) + strings.Repeat("-", n-i)
}

// bounded are the names of all bounded cells.
func bounded(t *testing.T, planes []api.Plane) []string {
	t.Helper()
	var l []string
	for _, s := range cellsOf(t, planes) {
		is, e := arrange.IsBounded(planes, s)
		if value(t, is, e) {
			l = append(l, s)
		}
	}
	return l
}

func cellsOf(t *testing.T, planes []api.Plane) []string {
	t.Helper()
	l, e := arrange.Cells(planes)
	return value(t, l, e)
}

// solid takes the solid of a set.
func (s set) solid(t *testing.T) api.Solid {
	t.Helper()
	made, e := boundary.Make(s.planes, s.cells)
	return value(t, made, e)
}

// points are integer points, three coordinates each.
func points(l ...int64) []api.Point {
	var all []api.Point
	for i := 0; i < len(l); i += 3 {
		all = append(all, api.Point{l[i], l[i+1], l[i+2], 1})
	}
	return all
}

func order(a, b api.Point) int {
	n, _ := point.Cmp(a, b)
	return n
}

func listOrder(a, b []api.Point) int {
	return slices.CompareFunc(a, b, order)
}

// inOrder puts faces in canonical order: each loop from its first point on, the loops and the faces.
func inOrder(faces ...api.Face) api.Solid {
	l := clone(api.Solid{Faces: faces}).Faces
	for _, f := range l {
		for k, loop := range f.Loops {
			if len(loop) > 0 {
				at := slices.Index(loop, slices.MinFunc(loop, order))
				f.Loops[k] = slices.Concat(loop[at:], loop[:at])
			}
		}
		slices.SortFunc(f.Loops, listOrder)
	}
	slices.SortFunc(l, func(f, g api.Face) int {
		return cmp.Or(slices.Compare(f.Plane[:], g.Plane[:]), slices.CompareFunc(f.Loops, g.Loops, listOrder))
	})
	return api.Solid{Faces: l}
}

// clone is a copy with memory of its own.
func clone(s api.Solid) api.Solid {
	var l []api.Face
	for _, f := range s.Faces {
		var loops [][]api.Point
		for _, loop := range f.Loops {
			loops = append(loops, slices.Clone(loop))
		}
		l = append(l, api.Face{Plane: f.Plane, Loops: loops})
	}
	return api.Solid{Faces: l}
}

// value takes what a call returns that has no error.
func value[T any](t *testing.T, got T, e api.Errno) T {
	t.Helper()
	if e != api.OK {
		t.Fatalf("error %d", e)
	}
	return got
}

// same checks a result that has no error. What is empty is the same as nil.
func same(t *testing.T, what string, got any, e api.Errno, want any) {
	t.Helper()
	if v := reflect.ValueOf(got); v.Kind() == reflect.Slice && v.Len() == 0 && reflect.ValueOf(want).Len() == 0 && e == api.OK {
		return
	}
	if e != api.OK || !reflect.DeepEqual(got, want) {
		t.Errorf("%s: %v, error %d, want %v", what, got, e, want)
	}
}

// isRight checks that Check finds no error.
func isRight(t *testing.T, what string, s api.Solid) {
	t.Helper()
	if e := solid.Check(s); e != api.OK {
		t.Errorf("%s: error %d of %v", what, e, s)
	}
}

// isWrong checks that Check returns ErrSolid.
func isWrong(t *testing.T, what string, s api.Solid) {
	t.Helper()
	if e := solid.Check(s); e != api.ErrSolid {
		t.Errorf("%s: error %d of %v", what, e, s)
	}
}

// figures are sets of blocks of many kinds.
func figures() map[string]set {
	full, empty := []string{"###", "###", "###"}, []string{"...", "...", "..."}
	ring, middle := []string{"###", "#.#", "###"}, []string{"...", ".#.", "..."}
	wall, hollow := []string{"#####", "#####", "#####", "#####", "#####"}, []string{"#####", "#...#", "#...#", "#...#", "#####"}
	return map[string]set{
		"a cube":                              blocks([]string{"#"}),
		"a bar":                               blocks([]string{"###"}),
		"a hole through it":                   blocks(ring),
		"a void":                              blocks(full, ring, full),
		"a void that is open":                 blocks(full, ring, ring),
		"a cube in a void":                    blocks(wall, hollow, []string{"#####", "#...#", "#.#.#", "#...#", "#####"}, hollow, wall),
		"two parts":                           blocks([]string{"#.#"}),
		"parts that touch along an edge":      blocks([]string{"#.", ".#"}),
		"parts that touch in a point":         blocks([]string{"#.", ".."}, []string{"..", ".#"}),
		"voids that touch in a point":         blocks([]string{"####", "####", "####", "####"}, []string{"####", "#.##", "####", "####"}, []string{"####", "####", "##.#", "####"}, []string{"####", "####", "####", "####"}),
		"a void that touches the outside":     blocks(full, []string{"###", "#.#", "##."}),
		"a cube on a slab":                    blocks(full, middle),
		"a cube on the corner of a slab":      blocks(full, []string{"#..", "...", "..."}),
		"a cube that touches a slab":          blocks(full, empty, middle),
		"several holes":                       blocks([]string{"#####", "#.#.#", "#####", "#..##", "#####"}),
		"a hole that touches the outer loop":  blocks([]string{".###", "#.##", "####"}),
		"holes that touch each other":         blocks([]string{"####", "#.##", "##.#", "####"}),
		"a chain of holes":                    blocks([]string{"#####", "#.#.#", "##.##", "#.#.#", "#####"}),
		"an outer loop that touches itself":   blocks([]string{"##.", "#.#", "###"}),
		"a checkerboard":                      blocks([]string{"#.#", ".#.", "#.#"}, []string{".#.", "#.#", ".#."}),
		"one in the hole of another one":      blocks([]string{"#####", "#...#", "#.#.#", "#...#", "#####"}),
		"faces on a plane and its opposite":   blocks([]string{"#..", "#..", "##."}, []string{".##", "..#", "..#"}),
		"holes along all axes":                blocks(ring, []string{"#.#", "...", "#.#"}, ring),
		"a bridge that touches along an edge": blocks(full, []string{"#.#", "...", "..."}, []string{"###", ".##", "..."}),
	}
}

// lists are those of planes, of many kinds, that have some bounded cells, and few enough of them to examine all.
func lists() map[string][]api.Plane {
	r := rolls(1)
	l := map[string][]api.Plane{
		"a cube with diagonals":        append(cube(), api.Plane{1, -1, 0, 0}, api.Plane{1, 1, 0, -1}, api.Plane{1, 1, 1, -2}, api.Plane{0, 1, -1, 0}),
		"a tetrahedron":                {{-1, 0, 0, 0}, {0, -1, 0, 0}, {0, 0, -1, 0}, {1, 1, 1, -1}},
		"boxes":                        grid(4, 3, 3),
		"planes in general":            general(7),
		"a star":                       {{1, 0, 0, 0}, {0, 1, 0, 0}, {1, 1, 0, 0}, {1, -1, 0, 0}, {1, 0, 0, -2}, {1, 0, 0, 2}, {0, 1, 0, -2}, {0, 1, 0, 2}, {0, 0, 1, 0}, {0, 0, 1, -1}},
		"pyramids round a point":       {{1, 0, 1, 0}, {1, 0, -1, 0}, {0, 1, 1, 0}, {0, 1, -1, 0}, {0, 0, 1, -3}, {0, 0, 1, 3}},
		"a pencil between two planes":  {{1, 0, 0, 0}, {0, 1, 0, 0}, {1, 1, 0, 0}, {1, -2, 0, 0}, {1, 3, 1, -4}, {1, 0, 0, 5}, {0, 0, 1, 2}, {3, 1, -1, -6}},
		"cut corners":                  append(grid(3, 3, 2), api.Plane{1, 1, 0, -1}, api.Plane{1, 1, 0, -3}),
		"a point that is on all sides": {{1, 0, 0, 0}, {0, 1, 0, 0}, {0, 0, 1, 0}, {1, 1, 1, -1}, {1, 1, -1, 1}, {1, -1, 1, 1}, {-1, 1, 1, 1}},
	}
	for i := range int64(4) {
		l["small ones "+strconv.FormatInt(i, 10)] = r.more(nil, int(7+i), 1, 1)
		l["middling ones "+strconv.FormatInt(i, 10)] = r.more(nil, int(5+i), 2, 2)
		l["wide ones "+strconv.FormatInt(i, 10)] = r.more(nil, int(5+i), 4, 9)
		l["the greatest "+strconv.FormatInt(i, 10)] = r.more(nil, int(5+i), 1000, 1000000)
	}
	return l
}

// sets are the figures, and some of the bounded cells of each list, and all of them, if these have a solid.
func sets(t *testing.T) map[string]set {
	t.Helper()
	r := rolls(2)
	all := lists()
	l := figures()
	for _, name := range slices.Sorted(maps.Keys(all)) {
		cells := bounded(t, all[name])
		for _, percent := range []int64{15, 40, 50, 60, 85, 100} {
			s := set{all[name], shuffled(&r, r.some(cells, percent))}
			if _, e := boundary.Make(s.planes, s.cells); e == api.OK {
				l[name+", "+strconv.FormatInt(percent, 10)+" of 100"] = s
			}
		}
	}
	return l
}

// box takes a box that has no error.
func box(t *testing.T, x, y, z, toX, toY, toZ int64) api.Solid {
	t.Helper()
	s, e := solid.Box([3]int64{x, y, z}, [3]int64{toX, toY, toZ})
	return value(t, s, e)
}

// wrongSolids are solids that are not right, for one reason each.
func wrongSolids(t *testing.T) []api.Solid {
	t.Helper()
	s := box(t, 0, 0, 0, 1, 1, 1)
	l := []api.Solid{{Faces: s.Faces[1:]}, {Faces: s.Faces[:5]}, {Faces: make([]api.Face, 1)}, {Faces: make([]api.Face, 401)}}
	for _, change := range []func(s api.Solid){
		func(s api.Solid) { s.Faces[0].Plane = api.Plane{} },
		func(s api.Solid) { s.Faces[5].Loops[0][3] = api.Point{} },
		func(s api.Solid) { s.Faces[3].Loops[0] = s.Faces[3].Loops[0][:3] },
		func(s api.Solid) { slices.Reverse(s.Faces[2].Loops[0]) },
		func(s api.Solid) { slices.Reverse(s.Faces) },
	} {
		changed := clone(s)
		change(changed)
		l = append(l, changed)
	}
	return l
}

// wrongPlanes are planes that are not right.
func wrongPlanes() []api.Plane {
	return []api.Plane{
		{}, {0, 0, 0, 1}, {1001, 0, 0, 1}, {1, -1001, 0, 0}, {0, 1, 1001, 0}, {1, 0, 0, 1000001}, {1, 0, 0, -1000001},
		{2, 0, 0, 0}, {2, 4, 6, 8}, {-5, 10, 0, 1000000},
		{least, 0, 0, 1}, {1, 0, 0, least}, {greatest, 1, 0, 0}, {least, least, least, least},
	}
}

// wrongPoints are points that are not right.
func wrongPoints() []api.Point {
	return []api.Point{
		{}, {1, 1, 1, 0}, {1, 1, 1, -1}, {2, 2, 2, 2}, {0, 0, 0, 2}, {3, 0, 0, 3}, {0, 0, 1, 1<<33 + 1}, {1<<43 + 1, 0, 0, 1}, {0, -1<<43 - 1, 0, 1},
		{least, 0, 0, 1}, {0, 0, 0, least}, {greatest, 1, 0, 1}, {0, 1, 0, greatest}, {least, least, least, least},
	}
}
