package boundary_test

import (
	"reflect"
	"slices"
	"testing"

	"spokeshave/api"
	"spokeshave/boundary"
)

// results are those of all functions, with the errors.
func results(s set) []any {
	var l []any
	add := func(v any, e api.Errno) { l = append(l, v, e) }
	add(values(boundary.Make(s.planes, s.cells)))
	add(values(boundary.Corners(s.planes, s.cells)))
	add(values(boundary.Edges(s.planes, s.cells)))
	add(values(boundary.Needed(s.planes, s.cells)))
	add(values(boundary.Others(s.planes, s.cells)))
	add(values(boundary.Boundary(s.planes, s.cells)))
	for i := range len(s.planes) + 1 {
		add(values(boundary.Faces(s.planes, s.cells, i, true)))
		add(values(boundary.Faces(s.planes, s.cells, i, false)))
	}
	return l
}

func values[T any](v T, e api.Errno) (any, api.Errno) {
	return v, e
}

// Functions change no arguments, also not beyond the length of a list, nor read these.
func TestArguments(t *testing.T) {
	s := blocks([]string{"##.", "#.#", "###"}, []string{"...", ".#.", "..."})
	for _, s := range []set{s, {cube(), []string{"------"}}, {cube(), nil}, {nil, nil}, {nil, []string{""}}, {cube(), []string{"------", "------"}}} {
		planes := append(slices.Clone(s.planes), api.Plane{1, 1, 1, 1}, api.Plane{}, api.Plane{7, 7, 7, 7})
		cells := append(slices.Clone(s.cells), "x", "------", "")
		keptPlanes, keptCells := slices.Clone(planes), slices.Clone(cells)
		want := results(s)
		got := results(set{planes[:len(s.planes)], cells[:len(s.cells)]})
		if !reflect.DeepEqual(got, want) {
			t.Errorf("results differ with what is behind the lists: %v, %v", got, want)
		}
		if !slices.Equal(planes, keptPlanes) || !slices.Equal(cells, keptCells) {
			t.Errorf("arguments changed: %v, %v", planes, cells)
		}
	}
}

// Results are new memory: what is written to one changes no other, no later one, and no argument.
func TestResults(t *testing.T) {
	s := blocks([]string{"####", "#.##", "##.#", "####"}, []string{"....", "...#", "....", "#..."})
	want := results(s)
	kept := set{slices.Clone(s.planes), slices.Clone(s.cells)}
	for _, v := range results(s) {
		switch l := v.(type) {
		case api.Solid:
			spoil(t, l.Faces)
		case []api.Face:
			spoil(t, l)
		case []api.Point:
			fill(l, api.Point{9, 9, 9, 9})
		case [][2]api.Point:
			fill(l, [2]api.Point{{9, 9, 9, 9}})
		case []int:
			fill(l, 9)
		case []string:
			fill(l, "9")
		}
	}
	if got := results(s); !reflect.DeepEqual(got, want) {
		t.Errorf("results changed: %v, %v", got, want)
	}
	if !slices.Equal(s.planes, kept.planes) || !slices.Equal(s.cells, kept.cells) {
		t.Errorf("arguments changed: %v", s)
	}
}

// spoil writes another number to all points of each loop, also behind its length, and looks whether each still is there.
func spoil(t *testing.T, faces []api.Face) {
	t.Helper()
	n := int64(100)
	for _, f := range faces {
		for _, loop := range f.Loops {
			fill(loop, api.Point{n, n, n, 1})
			n++
		}
		fill(f.Loops[len(f.Loops):], []api.Point{{9, 9, 9, 9}})
	}
	n = 100
	for _, f := range faces {
		for _, loop := range f.Loops {
			if slices.ContainsFunc(loop, func(q api.Point) bool { return q != api.Point{n, n, n, 1} }) {
				t.Errorf("two loops share memory: %v", loop)
			}
			n++
		}
	}
	fill(faces, api.Face{})
}

// fill writes to all of l, also behind its length.
func fill[T any](l []T, x T) {
	l = l[:cap(l)]
	for i := range l {
		l[i] = x
	}
}
