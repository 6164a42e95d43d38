package arrange_test

import (
	"slices"
	"testing"

	"spokeshave/api"
	"spokeshave/arrange"
	"spokeshave/plane"
	"spokeshave/point"
)

func TestCheck(t *testing.T) {
	for name, l := range lists() {
		if e := arrange.Check(l); e != api.OK {
			t.Errorf("Check of %s: error %d", name, e)
		}
	}
	for name, l := range long() {
		if e := arrange.Check(l); e != api.OK || len(l) != api.MaxPlanes {
			t.Errorf("Check of %d: %s: error %d", len(l), name, e)
		}
	}
}

func TestCheckOfWrongLists(t *testing.T) {
	p := api.Plane{3, -2, 0, 5}
	parallel := api.Plane{3, -2, 0, 6}
	for i, c := range []struct {
		l    []api.Plane
		want api.Errno
	}{
		{[]api.Plane{p, p}, api.ErrCells},
		{[]api.Plane{p, opposite(p)}, api.ErrCells},
		{[]api.Plane{{0, 0, 1, 0}, {0, 0, -1, 0}}, api.ErrCells},
		{[]api.Plane{parallel, p, opposite(parallel)}, api.ErrCells},
		{append(parallels(39), parallels(1)...), api.ErrCells},
		{append(general(39), opposite(general(39)[20])), api.ErrCells},
		{slices.Repeat([]api.Plane{p}, 40), api.ErrCells},
		{slices.Repeat([]api.Plane{p}, 41), api.ErrLarge},
		{parallels(41), api.ErrLarge},
		{general(41), api.ErrLarge},
		{append(general(40), opposite(general(40)[0])), api.ErrLarge},
		{slices.Repeat(general(40), 2000), api.ErrLarge},
		{[]api.Plane{p, p, {}}, api.ErrPlane},
		{[]api.Plane{{}, p, p}, api.ErrPlane},
		{append(general(41), api.Plane{2, 0, 0, 0}), api.ErrPlane},
		{append([]api.Plane{{0, 0, 0, 1}}, general(41)...), api.ErrPlane},
		{append(slices.Repeat(general(40), 2000), api.Plane{}), api.ErrPlane},
	} {
		if e := arrange.Check(c.l); e != c.want {
			t.Errorf("case %d: error %d, want %d", i, e, c.want)
		}
	}
}

func TestMerge(t *testing.T) {
	x, y, z := api.Plane{1, 0, 0, 0}, api.Plane{0, 1, 0, 0}, api.Plane{0, 0, 1, 0}
	for i, c := range []struct {
		l    [][]api.Plane
		want []api.Plane
	}{
		{nil, nil},
		{[][]api.Plane{nil, {}}, nil},
		{[][]api.Plane{{x, y, z}}, []api.Plane{z, y, x}},
		{[][]api.Plane{{x}, {opposite(z)}, nil, {y, opposite(x), x}}, []api.Plane{z, y, x}},
		{[][]api.Plane{{opposite(x), opposite(x)}, {x}}, []api.Plane{x}},
		{[][]api.Plane{{{-1, 0, 2, 5}, {0, 0, -3, 1}}, {{0, -7, 1, 0}, {1, 0, -2, -5}}}, []api.Plane{{0, 0, 3, -1}, {0, 7, -1, 0}, {1, 0, -2, -5}}},
		{[][]api.Plane{{{1, 0, 0, 5}, {1, 0, 0, -5}, {-1, 0, 0, 1}}}, []api.Plane{{1, 0, 0, -5}, {1, 0, 0, -1}, {1, 0, 0, 5}}},
		{[][]api.Plane{{{1000, 999, 998, 1000000}, {1000, 999, 998, -1000000}}, {{-1000, -999, -998, 1000000}}}, []api.Plane{{1000, 999, 998, -1000000}, {1000, 999, 998, 1000000}}},
	} {
		got, e := arrange.Merge(c.l)
		if e != api.OK || !slices.Equal(got, c.want) {
			t.Errorf("case %d: %v, error %d, want %v", i, got, e, c.want)
		}
	}
}

// Lists of any planes, many of which are the same, or opposite.
func TestMergeOfManyPlanes(t *testing.T) {
	r := rolls(3)
	for range 300 {
		var l [][]api.Plane
		var want []api.Plane
		some := r.planes(1+int(r.below(40)), 3, 2)
		for range r.below(8) {
			var planes []api.Plane
			for range r.below(20) {
				p := some[r.below(int64(len(some)))]
				if r.below(2) == 0 {
					p = opposite(p)
				}
				planes = append(planes, p)
				shown, e := plane.Shown(p)
				want = append(want, value(t, shown, e))
			}
			l = append(l, planes)
		}
		want, e := plane.Sort(want)
		value(t, want, e)
		got, e := arrange.Merge(l)
		sameList(t, "Merge", got, e, want...)
	}
}

func TestMergeOfLongLists(t *testing.T) {
	forty := general(40)
	var turned []api.Plane
	for _, p := range forty {
		turned = append(turned, opposite(p))
	}
	want, e := plane.Sort(forty)
	value(t, want, e)
	got, e := arrange.Merge([][]api.Plane{forty})
	sameList(t, "Merge of 40", got, e, want...)
	got, e = arrange.Merge([][]api.Plane{turned, forty, turned})
	sameList(t, "Merge of 40 and their opposites", got, e, want...)
	got, e = arrange.Merge([][]api.Plane{slices.Repeat(forty, 12), nil, slices.Repeat(turned, 13)})
	sameList(t, "Merge of 1000", got, e, want...)
	got, e = arrange.Merge([][]api.Plane{slices.Repeat(forty, 12), slices.Repeat(turned, 13), forty[:1]})
	failsList(t, "Merge of 1001", got, e, api.ErrLarge)
	got, e = arrange.Merge([][]api.Plane{slices.Repeat(forty[:1], 1001)})
	failsList(t, "Merge of 1001 equal ones", got, e, api.ErrLarge)
	got, e = arrange.Merge([][]api.Plane{slices.Repeat(forty[:1], 1000)})
	sameList(t, "Merge of 1000 equal ones", got, e, forty[0])
	got, e = arrange.Merge(slices.Repeat([][]api.Plane{{{0, 0, -1, 3}}}, 1000))
	sameList(t, "Merge of 1000 lists", got, e, api.Plane{0, 0, 1, -3})
	got, e = arrange.Merge(slices.Repeat([][]api.Plane{{{0, 0, -1, 3}}}, 1001))
	failsList(t, "Merge of 1001 lists", got, e, api.ErrLarge)
	got, e = arrange.Merge([][]api.Plane{parallels(41)})
	failsList(t, "Merge of 41", got, e, api.ErrLarge)
	got, e = arrange.Merge([][]api.Plane{forty, turned, {{1, 0, 0, 77}}})
	failsList(t, "Merge of 40 and one more", got, e, api.ErrLarge)
}

func TestMergeOfWrongPlanes(t *testing.T) {
	for _, p := range wrongPlanes() {
		for i, l := range [][][]api.Plane{
			{{p}}, {{{1, 0, 0, 0}, p}}, {{{1, 0, 0, 0}}, {{0, 1, 0, 0}, p, {0, 0, 1, 0}}}, {nil, general(41), {p}}, {general(41), {p}, general(5)}, {slices.Repeat(general(40), 26), {p}}, {{p}, slices.Repeat(general(40), 26)},
		} {
			got, e := arrange.Merge(l)
			failsList(t, "Merge of a wrong plane", got, e, api.ErrPlane)
			if e == api.OK {
				t.Errorf("case %d of %v", i, p)
			}
		}
	}
}

func TestSigns(t *testing.T) {
	axes := []api.Plane{{1, 0, 0, 0}, {0, 1, 0, 0}, {0, 0, 1, 0}}
	for _, c := range []struct {
		planes []api.Plane
		q      api.Point
		want   string
	}{
		{nil, api.Point{1, 2, 3, 4}, ""},
		{axes, api.Point{0, 0, 0, 1}, "000"},
		{axes, api.Point{-1, 0, 5, 7}, "-0+"},
		{axes, api.Point{1, -1, -1, weight}, "+--"},
		{axes, api.Point{coord, -coord, 0, 1}, "+-0"},
		{cube(), api.Point{1, 1, 1, 2}, "------"},
		{cube(), api.Point{0, 1, 1, 2}, "0-----"},
		{cube(), api.Point{1, 1, 1, 1}, "-0-0-0"},
		{cube(), api.Point{2, 1, -1, 1}, "-+-0+-"},
		{pencil(3), api.Point{-6, -5, 0, 2}, "000"},
		{pencil(3), api.Point{-3, -2, 0, 1}, "+++"},
		{[]api.Plane{{1000, 1000, 999, 1000000}, {1000, -1000, 999, -1000000}, {-1, 0, 1, 0}}, api.Point{-coord, -coord, -coord, weight - 1}, "--0"},
		{[]api.Plane{{1000, 1000, 999, -1000000}, {1000, -1000, 999, -1000000}}, api.Point{coord, coord, coord, weight - 1}, "++"},
		{[]api.Plane{{1000, 1000, 999, -1000000}, {1000, -1000, 999, 1000000}}, api.Point{coord, coord, -coord, weight - 1}, "+-"},
	} {
		got, e := arrange.Signs(c.planes, c.q)
		same(t, "Signs", got, e, c.want)
	}
}

// Signs are those of plane.Side, and turn with a plane.
func TestSignsOfManyPoints(t *testing.T) {
	for name, l := range lists() {
		corners, e := arrange.Corners(l)
		for _, a := range value(t, corners, e) {
			for _, move := range [][3]int64{{}, {0, 0, 1}, {1000000, 3, -7}, {-2, -1000000, 5}} {
				q := api.Point{a[0] + move[0]*a[3], a[1] + move[1]*a[3], a[2] + move[2]*a[3], a[3]}
				if point.Check(q) == api.OK {
					hasSigns(t, name, l, q)
				}
			}
		}
	}
}

func hasSigns(t *testing.T, name string, l []api.Plane, q api.Point) {
	t.Helper()
	got, e := arrange.Signs(l, q)
	if len(value(t, got, e)) != len(l) {
		t.Fatalf("Signs of %s: %s", name, got)
	}
	for i, p := range l {
		side, e := plane.Side(p, q)
		if got[i] != "-0+"[value(t, side, e)+1] {
			t.Errorf("Signs of %s and %v: %s", name, q, got)
		}
	}
}
