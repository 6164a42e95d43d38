package arrange

import (
	"iter"
	"slices"

	"spokeshave/api"
	"spokeshave/line"
	"spokeshave/plane"
	"spokeshave/right"
)

// areList returns the error of what is not a list of planes.
func areList(planes []api.Plane) api.Errno {
	return right.First(right.Planes(planes...), areFew(planes), areApart(planes))
}

// areFew checks that there are at most MaxPlanes.
func areFew(planes []api.Plane) right.Check {
	return right.Most(api.MaxPlanes, len(planes))
}

// areApart checks that no two planes are coincident.
func areApart(planes []api.Plane) right.Check {
	return func() api.Errno {
		if len(shown(planes)) < len(planes) {
			return api.ErrCells
		}
		return api.OK
	}
}

// shown returns, of each plane and its opposite, the shown one, in order, each once. There are no more planes than plane.Sort takes.
func shown(planes []api.Plane) []api.Plane {
	l := make([]api.Plane, len(planes))
	for i, p := range planes {
		l[i], _ = plane.Shown(p)
	}
	sorted, _ := plane.Sort(l)
	return sorted
}

// independent returns those planes whose normals are not sums of multiples of the normals of those before them. There are three at the most.
func independent(planes []api.Plane) []api.Plane {
	var l []api.Plane
	for _, p := range planes {
		if isIndependent(l, p) {
			l = append(l, p)
		}
	}
	return l
}

func isIndependent(l []api.Plane, p api.Plane) bool {
	switch len(l) {
	case 0:
		return true
	case 1:
		parallel, _ := plane.Parallel(l[0], p)
		return !parallel
	case 2:
		crosses, _ := line.Crosses(l[0], l[1], p)
		return crosses != 0
	}
	return false
}

// spanning returns the planes, and behind them as many others as it takes for three to meet in one point. Each cell of the planes is cut by these others into as many cells as they have alone, and so is each piece: what is on its sides stays. All cells then have corners, and all pieces lines at which they end.
func spanning(planes []api.Plane) []api.Plane {
	all, found := slices.Clone(planes), independent(planes)
	for _, axis := range [...]api.Plane{{1, 0, 0, 0}, {0, 1, 0, 0}, {0, 0, 1, 0}} {
		if isIndependent(found, axis) {
			all, found = append(all, axis), append(found, axis)
		}
	}
	return all
}

// distinct returns all elements, each once, in the order in which they come first.
func distinct[T comparable](all iter.Seq[T]) []T {
	var l []T
	known := map[T]bool{}
	for x := range all {
		if !known[x] {
			known[x] = true
			l = append(l, x)
		}
	}
	return l
}

// texts writes the signs of n planes, in order of bytes.
func texts(l []signs, n int) []string {
	var written []string
	for _, s := range l {
		written = append(written, s.text(n))
	}
	slices.Sort(written)
	return written
}
