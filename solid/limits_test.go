package solid_test

import (
	"slices"
	"testing"

	"spokeshave/api"
	"spokeshave/boundary"
	"spokeshave/solid"
)

// cubes are n that do not touch each other, in rows of six.
func cubes(t *testing.T, n int64) []api.Solid {
	t.Helper()
	var l []api.Solid
	for i := range n {
		x, y, z := i%6*2, i/6%6*2, i/36*2
		l = append(l, box(t, x, y, z, x+1, y+1, z+1))
	}
	return l
}

func wedge(t *testing.T, x, y, z int64) api.Solid {
	t.Helper()
	s, e := solid.Wedge([3]int64{x, y, z}, [3]int64{x + 1, y + 1, z + 1}, 0)
	return value(t, s, e)
}

// prism is half a cube.
func prism(t *testing.T, x, y, z int64) api.Solid {
	t.Helper()
	planes := []api.Plane{{-1, 0, 0, x}, {0, -1, 0, y}, {0, 0, -1, z}, {0, 0, 1, -z - 1}, {1, 1, 0, -x - y - 1}}
	s, e := boundary.Make(planes, []string{"-----"})
	return value(t, s, e)
}

func TestManyFaces(t *testing.T) {
	for _, c := range []struct {
		cubes, wedges, prisms int64
		faces                 int
	}{{66, 0, 0, 396}, {66, 1, 0, 400}, {65, 0, 2, 400}, {66, 0, 1, 401}, {67, 0, 0, 402}, {100, 0, 0, 600}, {216, 0, 0, 1296}} {
		l := cubes(t, c.cubes)
		for i := range c.wedges {
			l = append(l, wedge(t, i*2, 0, 10))
		}
		for i := range c.prisms {
			l = append(l, prism(t, 2*i, 2-2*i, 10))
		}
		s := overlaid(l...)
		if len(s.Faces) != c.faces {
			t.Fatalf("%d faces, want %d", len(s.Faces), c.faces)
		}
		if c.faces > api.MaxFaces {
			isWrong(t, "many faces", s)
			planes, e := solid.Planes(s)
			fails(t, "Planes of many faces", planes, e, api.ErrSolid)
			continue
		}
		isRight(t, "many faces", s)
		same(t, "many faces", counts(t, s), api.OK, [3]int{int(8*c.cubes + 4*c.wedges + 6*c.prisms), int(24*c.cubes + 12*c.wedges + 18*c.prisms), c.faces})
		slices.Reverse(s.Faces)
		isWrong(t, "many faces in another order", s)
	}
}

func TestManyPlanes(t *testing.T) {
	for _, c := range []struct {
		more   []api.Solid
		planes int
	}{
		{nil, 36}, {[]api.Solid{wedge(t, 20, 20, 20)}, 40}, {[]api.Solid{box(t, 20, 20, 0, 21, 21, 1)}, 40}, {[]api.Solid{box(t, 20, 20, 20, 21, 21, 21)}, 42},
		{[]api.Solid{box(t, 20, 20, 20, 21, 21, 22), box(t, 25, 25, 0, 26, 26, 1)}, 46}, {[]api.Solid{box(t, 20, 20, 0, 21, 21, 8)}, 41}, {[]api.Solid{octahedron(t, 30, 30, 30, 3)}, 44},
	} {
		l := c.more
		for i := range int64(6) {
			l = append(l, box(t, 3*i, 3*i, 3*i, 3*i+1, 3*i+1, 3*i+1))
		}
		s := overlaid(l...)
		if n := len(planesOf(s)); n != c.planes {
			t.Fatalf("%d planes, want %d", n, c.planes)
		}
		if c.planes > api.MaxPlanes {
			isWrong(t, "many planes", s)
			continue
		}
		isRight(t, "many planes", s)
		planes, e := solid.Planes(s)
		same(t, "Planes", planes, e, planesOf(s))
	}
}

// Faces that are all there, and as many that are wrong, of a solid with MaxPlanes planes.
func TestLargeSolidsChanged(t *testing.T) {
	l := cubes(t, 66)
	s := overlaid(append(l, wedge(t, 0, 0, 10))...)
	for i := 0; i < len(s.Faces); i += 97 {
		changed := clone(s)
		changed.Faces = slices.Delete(changed.Faces, i, i+1)
		isWrong(t, "a face left out of many", changed)
		changed = clone(s)
		changed.Faces[i].Loops[0][2][3] = 2
		isWrong(t, "a point of many moved", changed)
	}
	isWrong(t, "one cube turned inside out", overlaid(append(l[1:], turnedOut(l[0]))...))
	isWrong(t, "one cube in another one", overlaid(append(l[1:], box(t, -1, -1, -1, 2, 2, 2), l[0])...))
}
