package solid_test

import (
	"reflect"
	"slices"
	"testing"

	"spokeshave/api"
	"spokeshave/solid"
)

// results are those of all functions of solids, with the errors.
func results(s, other api.Solid, planes []api.Plane) []any {
	var l []any
	add := func(v any, e api.Errno) { l = append(l, v, e) }
	l = append(l, solid.Check(s))
	add(values(solid.Planes(s)))
	add(values(solid.Corners(s)))
	add(values(solid.Edges(s)))
	low, high, e := solid.Bounds(s)
	l = append(l, low, high, e)
	add(values(solid.Equal(s, other)))
	add(values(solid.Equal(other, s)))
	add(values(solid.Cells(s, planes)))
	return l
}

func values[T any](v T, e api.Errno) (any, api.Errno) {
	return v, e
}

// roomy is the same solid, with other data behind the length of each list.
func roomy(s api.Solid) api.Solid {
	l := clone(s).Faces
	for i, f := range l {
		for k, loop := range f.Loops {
			l[i].Loops[k] = append(loop, points(7, 7, 7, 0, 0, 0)...)[:len(loop)]
		}
		l[i].Loops = append(f.Loops, points(8, 8, 8), nil)[:len(f.Loops)]
	}
	return api.Solid{Faces: append(l, api.Face{}, s.Faces[0])[:len(l)]}
}

// whole is a solid with what is behind the length of each list.
func whole(s api.Solid) api.Solid {
	l := slices.Clone(s.Faces[:cap(s.Faces)])
	for i, f := range l {
		l[i].Loops = slices.Clone(f.Loops[:cap(f.Loops)])
		for k, loop := range l[i].Loops {
			l[i].Loops[k] = slices.Clone(loop[:cap(loop)])
		}
	}
	return api.Solid{Faces: l}
}

// Functions change no arguments, also not beyond the length of a list, nor read these.
func TestArguments(t *testing.T) {
	for _, s := range append(wrongSolids(t), unit(), half(), stairs(3), inOrder(ring().Faces...), figures()["a hole that touches the outer loop"].solid(t)) {
		for _, planes := range [][]api.Plane{nil, cube(), planesOf(box(t, 0, 0, 0, 1, 1, 1)), append(grid(4, 4, 3), half().Faces[3].Plane), {{1, 2, 3, 4}, {-1, -2, -3, -4}}} {
			want := results(clone(s), unit(), slices.Clone(planes))
			wide := append(slices.Clone(planes), api.Plane{}, api.Plane{1, 0, 0, 0}, api.Plane{7, 7, 7, 7})
			given, other := roomy(s), roomy(unit())
			keptPlanes, kept, keptOther := slices.Clone(wide), whole(given), whole(other)
			got := results(given, other, wide[:len(planes)])
			if !reflect.DeepEqual(got, want) {
				t.Errorf("results differ with what is behind the lists: %v, %v", got, want)
			}
			if !slices.Equal(wide, keptPlanes) || !reflect.DeepEqual(whole(given), kept) || !reflect.DeepEqual(whole(other), keptOther) {
				t.Errorf("arguments changed: %v, %v", given, wide)
			}
		}
	}
}

// Results are new memory: what is written to one changes no other, no later one, and no argument.
func TestResults(t *testing.T) {
	s := inOrder(ring().Faces...)
	planes := grid(5, 5, 4)
	kept, keptPlanes := clone(s), slices.Clone(planes)
	want := results(s, s, planes)
	for _, v := range results(s, s, planes) {
		switch l := v.(type) {
		case []api.Plane:
			fill(l, api.Plane{9, 9, 9, 9})
		case []api.Point:
			fill(l, api.Point{9, 9, 9, 9})
		case [][2]api.Point:
			fill(l, [2]api.Point{{9, 9, 9, 9}})
		case []string:
			fill(l, "9")
		}
	}
	if got := results(s, s, planes); !reflect.DeepEqual(got, want) {
		t.Errorf("results changed: %v, %v", got, want)
	}
	if !reflect.DeepEqual(s, kept) || !slices.Equal(planes, keptPlanes) {
		t.Errorf("arguments changed: %v", s)
	}
	for _, made := range []func() (api.Solid, api.Errno){
		func() (api.Solid, api.Errno) { return solid.Box([3]int64{}, [3]int64{1, 2, 3}) },
		func() (api.Solid, api.Errno) {
			return solid.Tetrahedron([4]api.Point(points(0, 0, 0, 1, 0, 0, 0, 2, 0, 0, 0, 3)))
		},
		func() (api.Solid, api.Errno) { return solid.Octahedron([3]int64{}, 7) },
		func() (api.Solid, api.Errno) { return solid.Wedge([3]int64{}, [3]int64{1, 2, 3}, 6) },
		func() (api.Solid, api.Errno) { return solid.Staircase(5) },
	} {
		isNew(t, made)
	}
}

// isNew checks that a solid shares no memory with that of the next call, nor one of its lists with another one.
func isNew(t *testing.T, made func() (api.Solid, api.Errno)) {
	t.Helper()
	s, e := made()
	want := clone(value(t, s, e))
	n := int64(100)
	for _, f := range s.Faces {
		for _, loop := range f.Loops {
			fill(loop, api.Point{n, n, n, 1})
			n++
		}
		fill(f.Loops[len(f.Loops):], []api.Point{{9, 9, 9, 9}})
	}
	n = 100
	for _, f := range s.Faces {
		for _, loop := range f.Loops {
			if slices.ContainsFunc(loop, func(q api.Point) bool { return q != api.Point{n, n, n, 1} }) {
				t.Errorf("two loops share memory: %v", loop)
			}
			n++
		}
	}
	fill(s.Faces, api.Face{})
	again, e := made()
	same(t, "the same again", again, e, want)
}

// fill writes to all of l, also behind its length.
func fill[T any](l []T, x T) {
	l = l[:cap(l)]
	for i := range l {
		l[i] = x
	}
}
