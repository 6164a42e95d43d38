package line_test

import (
	"slices"
	"testing"

	"spokeshave/api"
	"spokeshave/line"
)

// withPlanes calls each function that takes p and q, also with what causes other errors, and checks that it returns the error want.
func withPlanes(t *testing.T, p, q api.Plane, want api.Errno) {
	t.Helper()
	d, e := line.Direction(p, q)
	fails(t, "Direction", d, e, want)
	for _, a := range []api.Point{{0, 0, 0, 1}, {1, 2, 3, 4}, {coord, 0, 1, weight}} {
		n, e := line.Along(p, q, a, a)
		fails(t, "Along", n, e, want)
		n, e = line.Along(p, q, a, api.Point{0, 0, 0, 1})
		fails(t, "Along", n, e, want)
	}
	for _, r := range []api.Plane{{1, 0, 0, 0}, p, q, {1, 2, 3, 1000000}} {
		if want == api.ErrNone || r != p && r != q {
			n, e := line.Crosses(p, q, r)
			fails(t, "Crosses", n, e, want)
			n, e = line.Left(p, q, r)
			fails(t, "Left", n, e, want)
		}
	}
	for _, n := range []int{0, 1, 3, 1000, 1001} {
		points, e := line.Points(p, q, row(n))
		failsList(t, "Points", points, e, want)
		pencil, e := line.Pencil(p, q, row(n))
		failsList(t, "Pencil", pencil, e, want)
	}
}

// parallels are pairs of planes without a line.
func parallels() [][2]api.Plane {
	return [][2]api.Plane{
		{{1, 2, 3, 4}, {1, 2, 3, 4}}, {{1, 2, 3, 4}, {-1, -2, -3, -4}}, {{1, 2, 3, 4}, {1, 2, 3, 5}}, {{1, 2, 3, 4}, {-1, -2, -3, 5}}, {{1, 2, 3, 4}, {2, 4, 6, 5}}, {{-3, -6, -9, 1}, {2, 4, 6, 5}},
		{{1, 0, 0, 0}, {1, 0, 0, 1000000}}, {{1000, 0, 0, 1}, {-999, 0, 0, 1}}, {{0, 1, 0, 0}, {0, -1, 0, 0}}, {{0, 0, 1, 0}, {0, 0, 2, 1}}, {{0, 500, -500, 1}, {0, 1000, -1000, 1}},
		{{1000, 999, 998, 1000000}, {1000, 999, 998, -1000000}}, {{1000, 998, -1000, 1}, {-500, -499, 500, 1}},
	}
}

func TestParallelPlanes(t *testing.T) {
	for _, l := range parallels() {
		withPlanes(t, l[0], l[1], api.ErrNone)
		withPlanes(t, l[1], l[0], api.ErrNone)
	}
}

// Planes that are nearly parallel have a line.
func TestPlanesThatAreNearlyParallel(t *testing.T) {
	for _, l := range [][2]api.Plane{
		{{1000, 999, 998, 0}, {1000, 999, 997, 0}}, {{1000, 999, 998, 0}, {1000, 998, 998, 1}}, {{1000, 999, 998, 0}, {999, 999, 998, 0}}, {{1000, 999, 0, 0}, {-999, -998, 0, 0}}, {{1, 0, 0, 0}, {1000, 1, 0, 0}}, {{1, 0, 0, 0}, {-1000, 0, 1, 0}},
	} {
		got, e := line.Direction(l[0], l[1])
		same(t, "Direction", got, e, shortened(cross(normalOf(l[0]), normalOf(l[1]))))
	}
}

// Each wrong plane is put where a call takes p or q, beside one that is right, one that is wrong, and itself.
func TestWrongPlanesOfTheLine(t *testing.T) {
	for _, p := range wrongPlanes() {
		for _, q := range []api.Plane{{0, 1, 0, 0}, {1, 0, 0, 0}, {1, 2, 3, 4}, {1000, 999, 998, 1000000}, {}, p} {
			withPlanes(t, p, q, api.ErrPlane)
			withPlanes(t, q, p, api.ErrPlane)
			for _, a := range append(wrongPoints(), api.Point{0, 0, 0, 1}) {
				n, e := line.Along(p, q, a, api.Point{1, 2, 3, 4})
				fails(t, "Along", n, e, api.ErrPlane)
				n, e = line.Along(q, p, api.Point{0, 0, 5, 1}, a)
				fails(t, "Along", n, e, api.ErrPlane)
			}
		}
	}
}

// A later plane that is wrong comes before all that is said of the line, and before the length of a list.
func TestWrongPlanesBesideTheLine(t *testing.T) {
	pairs := append(parallels(), [2]api.Plane{{1, 0, 0, 0}, {0, 1, 0, 0}}, [2]api.Plane{{0, 1, 0, 3}, {1, 2, 3, 4}})
	for _, r := range wrongPlanes() {
		for _, l := range pairs {
			n, e := line.Crosses(l[0], l[1], r)
			fails(t, "Crosses", n, e, api.ErrPlane)
			n, e = line.Left(l[0], l[1], r)
			fails(t, "Left", n, e, api.ErrPlane)
		}
		for _, n := range []int{1, 2, 5, 1000, 1001, 1002} {
			for _, at := range []int{0, n / 2, n - 1} {
				list := row(n)
				list[at] = r
				for _, l := range pairs[len(pairs)-3:] {
					points, e := line.Points(l[0], l[1], list)
					failsList(t, "Points", points, e, api.ErrPlane)
					pencil, e := line.Pencil(l[0], l[1], list)
					failsList(t, "Pencil", pencil, e, api.ErrPlane)
				}
			}
		}
	}
}

func TestWrongPoints(t *testing.T) {
	pairs := append(parallels(), [2]api.Plane{{1, 0, 0, 0}, {0, 1, 0, 0}}, [2]api.Plane{{0, 1, 0, 3}, {1, 2, 3, 4}})
	for _, a := range wrongPoints() {
		for _, l := range pairs {
			for _, b := range []api.Point{{0, 0, 0, 1}, {0, 0, 5, 3}, {1, 2, 3, 4}, {}, a} {
				n, e := line.Along(l[0], l[1], a, b)
				fails(t, "Along", n, e, api.ErrPoint)
				n, e = line.Along(l[0], l[1], b, a)
				fails(t, "Along", n, e, api.ErrPoint)
			}
		}
	}
}

func TestWrongPlanesWithDirections(t *testing.T) {
	good := [3]int64{0, 1, 0}
	for _, p := range wrongPlanes() {
		for _, v := range append(wrongVectors(), good) {
			n, e := line.Angle(p, v, good)
			fails(t, "Angle", n, e, api.ErrPlane)
			n, e = line.Angle(p, good, v)
			fails(t, "Angle", n, e, api.ErrPlane)
			for _, l := range [][][3]int64{nil, {good}, {v}, {good, v}, slices.Repeat([][3]int64{v}, 1001)} {
				n, e = line.Clockwise(p, v, l)
				fails(t, "Clockwise", n, e, api.ErrPlane)
				n, e = line.Clockwise(p, good, l)
				fails(t, "Clockwise", n, e, api.ErrPlane)
			}
		}
	}
}
