package arrange_test

import (
	"slices"
	"testing"

	"spokeshave/api"
	"spokeshave/arrange"
)

// P6.5.
func TestEuler(t *testing.T) {
	all := lists()
	for name, planes := range long() {
		all["long: "+name] = planes
	}
	found := 0
	for name, planes := range all {
		n, e := arrange.Counts(planes)
		value(t, n, e)
		if n[0] == 0 {
			continue
		}
		found++
		if n[0]-n[1]+n[2]-n[3] != -1 {
			t.Errorf("Counts of %s: %v", name, n)
		}
	}
	if found < 20 {
		t.Errorf("only %d lists with corners", found)
	}
}

// P6.6, for planes that are in general by their making, and with any of them turned.
func TestZaslavsky(t *testing.T) {
	r := rolls(5)
	for _, n := range []int{0, 1, 2, 3, 4, 5, 6, 7, 8, 10, 13, 20, 40} {
		planes := general(n)
		for i := range planes {
			if r.below(2) == 0 {
				planes[i] = opposite(planes[i])
			}
		}
		l, _ := cellsOf(t, planes)
		if len(l) != 1+n+n*(n-1)/2+n*(n-1)*(n-2)/6 {
			t.Errorf("Cells of %d: %d", n, len(l))
		}
		bounded := 0
		for _, s := range l {
			is, e := arrange.IsBounded(planes, s)
			if value(t, is, e) {
				bounded++
			}
		}
		if bounded != max(0, (n-1)*(n-2)*(n-3)/6) {
			t.Errorf("bounded cells of %d: %d", n, bounded)
		}
	}
}

// P6.7: with one plane turned all signs are turned at its place.
func TestTurnedPlanes(t *testing.T) {
	for name, planes := range lists() {
		l, _ := cellsOf(t, planes)
		counts, e := arrange.Counts(planes)
		value(t, counts, e)
		corners, e := arrange.Corners(planes)
		value(t, corners, e)
		for i, p := range planes {
			others := slices.Clone(planes)
			others[i] = opposite(p)
			hasTurned(t, name, others, i, l)
			got, e := arrange.Counts(others)
			same(t, "Counts of the turned "+name, got, e, counts)
			points, e := arrange.Corners(others)
			sameList(t, "Corners of the turned "+name, points, e, corners...)
			samePieces(t, name, planes, others, i)
		}
	}
}

// hasTurned checks that the planes have the cells l, turned at i.
func hasTurned(t *testing.T, name string, planes []api.Plane, i int, l []string) {
	t.Helper()
	var want []string
	for _, s := range l {
		want = append(want, turned(s, i))
	}
	slices.Sort(want)
	got, e := arrange.Cells(planes)
	sameList(t, "Cells of the turned "+name, got, e, want...)
}

func samePieces(t *testing.T, name string, planes, others []api.Plane, i int) {
	t.Helper()
	for k := range planes {
		want, e := arrange.Pieces(planes, k)
		for n, s := range value(t, want, e) {
			if k != i {
				want[n] = turned(s, i)
			}
		}
		slices.Sort(want)
		got, e := arrange.Pieces(others, k)
		sameList(t, "Pieces of the turned "+name, got, e, want...)
	}
}

// P6.7: the pieces that bound a cell are those to whose other sides its neighbours are.
func TestPiecesBetweenNeighbours(t *testing.T) {
	for name, planes := range lists() {
		pieces := map[string]bool{}
		for i := range planes {
			l, e := arrange.Pieces(planes, i)
			for _, s := range value(t, l, e) {
				pieces[s] = true
			}
		}
		l, _ := cellsOf(t, planes)
		for _, s := range l {
			near, e := arrange.Neighbours(planes, s)
			value(t, near, e)
			for i := range planes {
				if pieces[with(s, i, '0')] != slices.Contains(near, i) {
					t.Errorf("%s: %s has the neighbours %v", name, s, near)
				}
			}
		}
	}
}

// The order of planes changes nothing but that of the signs.
func TestPlanesInAnotherOrder(t *testing.T) {
	for name, planes := range lists() {
		l, _ := cellsOf(t, planes)
		others := slices.Clone(planes)
		slices.Reverse(others)
		var want []string
		for _, s := range l {
			b := []byte(s)
			slices.Reverse(b)
			want = append(want, string(b))
		}
		slices.Sort(want)
		got, e := arrange.Cells(others)
		sameList(t, "Cells of the turned list: "+name, got, e, want...)
		counts, e := arrange.Counts(planes)
		n, f := arrange.Counts(others)
		same(t, "Counts of the turned list: "+name, n, f, value(t, counts, e))
	}
}
