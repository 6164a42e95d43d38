package line_test

import (
	"math"
	"slices"
	"testing"

	"spokeshave/api"
	"spokeshave/line"
)

func TestAngle(t *testing.T) {
	z := api.Plane{0, 0, 1, -7}
	for _, c := range []struct {
		p    api.Plane
		u, v [3]int64
		want int
	}{
		{z, [3]int64{1, 0, 0}, [3]int64{1, 0, 0}, 0}, {z, [3]int64{1, 0, 0}, [3]int64{5, 0, 0}, 0}, {z, [3]int64{2, 4, 0}, [3]int64{3, 6, 0}, 0},
		{z, [3]int64{1, 0, 0}, [3]int64{-1, 0, 0}, 2}, {z, [3]int64{1, 0, 0}, [3]int64{-7, 0, 0}, 2}, {z, [3]int64{2, -4, 0}, [3]int64{-3, 6, 0}, 2},
		{z, [3]int64{1, 0, 0}, [3]int64{0, 1, 0}, 1}, {z, [3]int64{1, 0, 0}, [3]int64{0, -1, 0}, 3}, {z, [3]int64{0, 1, 0}, [3]int64{-1, 0, 0}, 1}, {z, [3]int64{0, 1, 0}, [3]int64{1, 0, 0}, 3},
		{opposite(z), [3]int64{1, 0, 0}, [3]int64{0, 1, 0}, 3}, {opposite(z), [3]int64{1, 0, 0}, [3]int64{0, -1, 0}, 1}, {opposite(z), [3]int64{1, 0, 0}, [3]int64{-1, 0, 0}, 2}, {opposite(z), [3]int64{1, 1, 0}, [3]int64{2, 2, 0}, 0},
		{z, [3]int64{1, 0, 0}, [3]int64{-longest, 1, 0}, 1}, {z, [3]int64{1, 0, 0}, [3]int64{-longest, -1, 0}, 3}, {z, [3]int64{1, 0, 0}, [3]int64{longest, 1, 0}, 1}, {z, [3]int64{1, 0, 0}, [3]int64{longest, -1, 0}, 3},
		{z, [3]int64{longest, longest - 1, 0}, [3]int64{longest - 1, longest - 2, 0}, 3}, {z, [3]int64{longest - 1, longest - 2, 0}, [3]int64{longest, longest - 1, 0}, 1},
		{z, [3]int64{longest, longest - 1, 0}, [3]int64{1 - longest, 2 - longest, 0}, 1}, {z, [3]int64{longest, longest - 1, 0}, [3]int64{-longest, 1 - longest, 0}, 2}, {z, [3]int64{longest - 1, longest - 2, 0}, [3]int64{-longest, 1 - longest, 0}, 3},
		{z, [3]int64{longest, -longest, 0}, [3]int64{longest, longest, 0}, 1}, {z, [3]int64{-longest, longest, 0}, [3]int64{longest, longest, 0}, 3}, {z, [3]int64{longest, longest, 0}, [3]int64{1, 1, 0}, 0}, {z, [3]int64{longest, longest, 0}, [3]int64{-1, -1, 0}, 2},
		{api.Plane{1, 1, 1, 0}, [3]int64{1, -1, 0}, [3]int64{0, 1, -1}, 1}, {api.Plane{1, 1, 1, 0}, [3]int64{1, -1, 0}, [3]int64{-1, 0, 1}, 3}, {api.Plane{-1, -1, -1, 0}, [3]int64{1, -1, 0}, [3]int64{0, 1, -1}, 3},
		{api.Plane{1000, -1000, 999, 5}, [3]int64{longest, longest, 0}, [3]int64{1, 1, 0}, 0},
		{api.Plane{1000, -1000, 999, 5}, [3]int64{longest, longest, 0}, [3]int64{-999, 0, 1000}, 1},
		{api.Plane{1000, -1000, 999, 5}, [3]int64{-longest, -longest, 0}, [3]int64{-1998000, 0, longest}, 3},
		{api.Plane{-1000, 1000, -999, 5}, [3]int64{longest, longest, 0}, [3]int64{-1998000, 0, longest}, 3},
	} {
		got, e := line.Angle(c.p, c.u, c.v)
		same(t, "Angle", got, e, c.want)
		same(t, "the angle by the definition", paperAngle(t, c.p, c.u, c.v), api.OK, c.want)
	}
}

func TestAngleOfManyDirections(t *testing.T) {
	r := rolls(9)
	seen := map[int]int{}
	for range 4000 {
		p := r.plane(api.MaxNormal, api.MaxOffset)
		if r.below(2) == 0 {
			p = r.plane(3, 3)
		}
		u := r.direction(p, 1000)
		v := r.direction(p, 1000, u)
		got, e := line.Angle(p, u, v)
		same(t, "Angle", got, e, paperAngle(t, p, u, v))
		seen[got]++
	}
	for n := range 4 {
		if seen[n] < 200 {
			t.Errorf("too few of one kind: %v", seen)
		}
	}
}

func TestVectorsThatAreNoDirections(t *testing.T) {
	p, good := api.Plane{1, 0, 0, 5}, [3]int64{0, 3, -longest}
	for _, v := range wrongVectors() {
		for _, l := range [][2][3]int64{{v, good}, {good, v}, {v, v}} {
			n, e := line.Angle(p, l[0], l[1])
			fails(t, "Angle", n, e, api.ErrArg)
		}
		for _, l := range [][][3]int64{{v}, {good, v}, {v, good}, {good, good, v, good}} {
			n, e := line.Clockwise(p, good, l)
			fails(t, "Clockwise", n, e, api.ErrArg)
		}
		for _, l := range [][][3]int64{{good}, {v}, nil, {good, {0, 1, 0}}} {
			n, e := line.Clockwise(p, v, l)
			fails(t, "Clockwise from it", n, e, api.ErrArg)
		}
	}
	n, e := line.Angle(p, good, [3]int64{0, longest, longest})
	same(t, "Angle of the longest", n, e, 1)
	n, e = line.Clockwise(p, good, [][3]int64{{0, longest, longest}, {0, -longest, -longest}})
	same(t, "Clockwise of the longest", n, e, 1)
}

// Products with the normal that would be 0 if they were reduced to int64 are not.
func TestVectorsWhoseProductsAreNotInt64(t *testing.T) {
	for _, c := range []struct {
		p api.Plane
		v [3]int64
	}{
		{api.Plane{2, 0, 0, 1}, [3]int64{least, 1, 0}}, {api.Plane{0, 512, 0, 1}, [3]int64{0, 1 << 55, 1}}, {api.Plane{2, 2, 1, 0}, [3]int64{1 << 62, 1 << 62, 0}},
		{api.Plane{1, -1, 0, 0}, [3]int64{least, least, 0}}, {api.Plane{1, 1, 0, 0}, [3]int64{least, least, 0}}, {api.Plane{1, 1, 0, 0}, [3]int64{greatest, -greatest, 0}},
	} {
		good := shortened(cross(normalOf(c.p), [3]int64{1, 2, 5}))
		n, e := line.Angle(c.p, good, c.v)
		fails(t, "Angle", n, e, api.ErrArg)
		n, e = line.Angle(c.p, c.v, good)
		fails(t, "Angle", n, e, api.ErrArg)
		n, e = line.Clockwise(c.p, c.v, [][3]int64{good})
		fails(t, "Clockwise", n, e, api.ErrArg)
		n, e = line.Clockwise(c.p, good, [][3]int64{good, c.v})
		fails(t, "Clockwise", n, e, api.ErrArg)
	}
}

func TestClockwise(t *testing.T) {
	z, east := api.Plane{0, 0, 1, 0}, [3]int64{1, 0, 0}
	north, west, south := [3]int64{0, 1, 0}, [3]int64{-1, 0, 0}, [3]int64{0, -1, 0}
	for _, c := range []struct {
		p    api.Plane
		from [3]int64
		l    [][3]int64
		want int
	}{
		{z, east, [][3]int64{north}, 0}, {z, east, [][3]int64{east}, 0}, {z, east, [][3]int64{{9, 0, 0}, east}, 0},
		{z, east, [][3]int64{north, west, south, east}, 2}, {z, east, [][3]int64{north, west, east}, 1}, {z, east, [][3]int64{east, north}, 1}, {z, east, [][3]int64{north, east}, 0},
		{z, south, [][3]int64{north, west, south, east}, 1}, {z, west, [][3]int64{north, west, south, east}, 0}, {z, north, [][3]int64{north, west, south, east}, 3},
		{opposite(z), east, [][3]int64{north, west, south, east}, 0}, {opposite(z), east, [][3]int64{east, south, west}, 2},
		// Of several with one direction the first one: short of half a turn, at it, beyond it, and after the whole turn.
		{z, east, [][3]int64{west, {0, -3, 0}, south, {0, -2, 0}}, 1}, {z, east, [][3]int64{north, {-2, 0, 0}, west, {-3, 0, 0}, north}, 1},
		{z, east, [][3]int64{east, {0, 7, 0}, north, {0, 2, 0}}, 1}, {z, east, [][3]int64{{2, 0, 0}, east, {3, 0, 0}}, 0}, {z, east, [][3]int64{{4, 2, 0}, {2, 1, 0}, {1, 2, 0}, {-1, 0, 0}, {-2, 0, 0}}, 3},
		// One just clockwise of `from` is the first one, one just counter-clockwise nearly the last one.
		{z, east, [][3]int64{{longest, 1, 0}, {1, -longest, 0}, {longest, -1, 0}, {longest, -2, 0}, west}, 2}, {z, east, [][3]int64{{longest, 1, 0}, {longest, 0, 0}, {longest, 1, 0}}, 0}, {z, east, [][3]int64{{longest, 1, 0}, {-longest, 1, 0}, {1, 1, 0}}, 1},
		{z, east, [][3]int64{{-longest, 1, 0}, {-longest, -1, 0}, west}, 1}, {z, east, [][3]int64{{-longest, 1, 0}, west, {-1, 1, 0}}, 1},
		{z, [3]int64{longest, longest - 1, 0}, [][3]int64{{longest, longest - 1, 0}, {longest - 2, longest - 3, 0}, {longest - 1, longest - 2, 0}}, 2},
		{z, [3]int64{longest - 1, longest - 2, 0}, [][3]int64{{longest, longest - 1, 0}, {1 - longest, 2 - longest, 0}, {-longest, 1 - longest, 0}}, 2},
		{api.Plane{1, 1, 1, 3}, [3]int64{1, -1, 0}, [][3]int64{{0, 1, -1}, {-1, 0, 1}, {1, 0, -1}, {-1, 1, 0}}, 1},
		{api.Plane{-1, -1, -1, 3}, [3]int64{1, -1, 0}, [][3]int64{{0, 1, -1}, {-1, 0, 1}, {1, 0, -1}, {-1, 1, 0}}, 2},
		{api.Plane{1000, -1000, 999, 5}, [3]int64{longest, longest, 0}, [][3]int64{{999, 0, -1000}, {1, 1, 0}, {-1998000, 0, longest}, {-1, -1, 0}}, 0},
	} {
		got, e := line.Clockwise(c.p, c.from, c.l)
		same(t, "Clockwise", got, e, c.want)
	}
}

// turn is the part of a turn, greater than 0 and at most 1, that one goes clockwise from u to v, which are short.
func turn(p api.Plane, u, v [3]int64) float64 {
	u, v = shortened(u), shortened(v)
	if u == v {
		return 1
	}
	n := normalOf(p)
	length := math.Sqrt(float64(product(n, n)))
	part := -math.Atan2(float64(product(n, cross(u, v)))/length, float64(product(u, v))) / (2 * math.Pi)
	if part <= 0 {
		return part + 1
	}
	return part
}

func product(u, v [3]int64) int64 {
	return u[0]*v[0] + u[1]*v[1] + u[2]*v[2]
}

func TestClockwiseOfManyDirections(t *testing.T) {
	r := rolls(10)
	for range 3000 {
		p := r.plane(3, 3)
		from := r.direction(p, 30)
		var l [][3]int64
		for range 1 + r.below(8) {
			l = append(l, r.direction(p, 30, append(l, from)...))
		}
		want := 0
		for i, v := range l {
			if turn(p, from, v) < turn(p, from, l[want])-1e-9 {
				want = i
			}
		}
		got, e := line.Clockwise(p, from, l)
		same(t, "Clockwise", got, e, want)
	}
}

// comesBefore asks whether v comes before w, clockwise from u, by the angles.
func comesBefore(t *testing.T, p api.Plane, u, v, w [3]int64) bool {
	t.Helper()
	order := [4]int{3, 2, 1, 0}
	a, b := order[paperAngle(t, p, u, v)], order[paperAngle(t, p, u, w)]
	return a < b || a == b && paperAngle(t, p, v, w) == 3
}

// In planes with all normals, directions of all lengths: none comes before the one that is found, and none that has its direction is before it in the list.
func TestClockwiseOfLongDirections(t *testing.T) {
	r := rolls(11)
	for range 1000 {
		p := r.plane(api.MaxNormal, api.MaxOffset)
		from := r.direction(p, 1000)
		var l [][3]int64
		for range 1 + r.below(6) {
			l = append(l, r.direction(p, 1000, append(l, from)...))
		}
		given := slices.Clone(l)
		got, e := line.Clockwise(p, from, l)
		first := l[value(t, got, e)]
		for i, v := range l {
			if comesBefore(t, p, from, v, first) || i < got && shortened(v) == shortened(first) {
				t.Errorf("Clockwise(%v, %v, %v): %d, not %d", p, from, l, got, i)
			}
		}
		if !slices.Equal(l, given) {
			t.Errorf("Clockwise changes its argument")
		}
	}
}

func TestClockwiseOfNoneAndLongLists(t *testing.T) {
	z, east := api.Plane{0, 0, 1, 0}, [3]int64{1, 0, 0}
	for _, l := range [][][3]int64{nil, {}} {
		n, e := line.Clockwise(z, east, l)
		fails(t, "Clockwise of none", n, e, api.ErrArg)
	}
	var l [][3]int64
	for i := range int64(1001) {
		l = append(l, [3]int64{1000, i, 0})
	}
	n, e := line.Clockwise(z, east, l[:1000])
	same(t, "Clockwise of 1000", n, e, 999)
	n, e = line.Clockwise(z, [3]int64{-5, -4, 0}, l[:1000])
	same(t, "Clockwise of 1000 from the opposite of one", n, e, 999)
	n, e = line.Clockwise(z, [3]int64{5, 4, 0}, l[:1000])
	same(t, "Clockwise of 1000 from one of them", n, e, 799)
	n, e = line.Clockwise(z, east, l)
	fails(t, "Clockwise of 1001", n, e, api.ErrArg)
	n, e = line.Clockwise(z, east, slices.Repeat([][3]int64{east}, 1001))
	fails(t, "Clockwise of 1001 equal ones", n, e, api.ErrArg)
	n, e = line.Clockwise(z, east, slices.Repeat([][3]int64{east}, 1000))
	same(t, "Clockwise of 1000 equal ones", n, e, 0)
	behind := [][3]int64{{0, 1, 0}, {0, -1, 0}, {}, {7, 7, 7}}
	kept := slices.Clone(behind)
	n, e = line.Clockwise(z, east, behind[:2])
	same(t, "Clockwise of a part of a list", n, e, 1)
	n, e = line.Clockwise(z, east, behind[:1])
	same(t, "Clockwise of a part of a list", n, e, 0)
	if !slices.Equal(behind, kept) {
		t.Errorf("Clockwise changes its argument")
	}
}
