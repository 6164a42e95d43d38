package arrange

import (
	"iter"

	"spokeshave/api"
	"spokeshave/point"
)

// corners goes over all corners, as the sets of planes that meet there; each corner comes once for each of its lines.
func corners(planes []api.Plane) iter.Seq[set] {
	return func(yield func(set) bool) {
		for l := range lines(planes, first(len(planes))) {
			for _, meeting := range l.points {
				if !yield(l.pencil | meeting) {
					return
				}
			}
		}
	}
}

// corner returns the point in which planes meet.
func corner(planes []api.Plane, meeting set) api.Point {
	var all []api.Plane
	for i := range meeting.all() {
		all = append(all, planes[i])
	}
	l := independent(all)
	q, _ := point.Meet(l[0], l[1], l[2])
	return q
}

// before is the order of points, as sorting takes it.
func before(a, b api.Point) int {
	n, _ := point.Cmp(a, b)
	return n
}

// pieces goes over the pieces of the planes of some; each piece comes once for each of its segments.
func pieces(planes []api.Plane, some set) iter.Seq[signs] {
	return func(yield func(signs) bool) {
		for s := range halves(spanning(planes), some) {
			if !yield(s.within(first(len(planes)))) {
				return
			}
		}
	}
}

// cells goes over all cells: those on both sides of each piece. A cell comes several times.
func cells(planes []api.Plane) iter.Seq[signs] {
	return func(yield func(signs) bool) {
		all := spanning(planes)
		for s, i := range halves(all, first(len(all))) {
			for _, side := range [...]int{-1, 1} {
				if !yield(s.with(i, side).within(first(len(planes)))) {
					return
				}
			}
		}
	}
}

// halves goes over the pieces at all segments: over two, on both sides of the segment, for each plane of some that contains it. With the signs of the piece comes its plane.
func halves(planes []api.Plane, some set) iter.Seq2[signs, int] {
	return func(yield func(signs, int) bool) {
		for l := range lines(planes, some) {
			sector := l.sectors(l.pencil)
			for i := range (l.pencil & some).all() {
				half := sector(i)
				for s := range l.segments() {
					if !yield(s.and(half), i) || !yield(s.and(half.opposite()), i) {
						return
					}
				}
			}
		}
	}
}
