package arrange

import (
	"iter"
	"slices"

	"spokeshave/api"
)

// divided is a line that planes divide into segments.
type divided struct {
	course
	pencil set   // the planes that contain the line
	signs  signs // of the first segment
	points []set // the planes that meet the line in each point, in order
}

// lines goes over all lines that a plane of some contains, each once.
func lines(planes []api.Plane, some set) iter.Seq[divided] {
	return func(yield func(divided) bool) {
		for c := range courses(planes) {
			l := divided{course: c}
			heights := make([]height, len(planes))
			for r := range planes {
				heights[r] = c.height(r)
				if heights[r] == (height{}) {
					l.pencil |= only(r)
				}
			}
			if l.pencil&some == 0 || !c.isFirst(l.pencil) {
				continue
			}
			l.divide(heights)
			if !yield(l) {
				return
			}
		}
	}
}

// divide finds the segments, where the planes have these heights.
func (l *divided) divide(heights []height) {
	var crossing []int
	for r, h := range heights {
		l.signs = l.signs.with(r, h.side())
		if h.slope != 0 {
			crossing = append(crossing, r)
		}
	}
	order := func(r, s int) int { return heights[r].order(heights[s]) }
	slices.SortFunc(crossing, order)
	for i, r := range crossing {
		if i == 0 || order(crossing[i-1], r) != 0 {
			l.points = append(l.points, 0)
		}
		l.points[len(l.points)-1] |= only(r)
	}
}

// segments goes over the signs of all segments of the line. In each point they turn for the planes that meet there.
func (l divided) segments() iter.Seq[signs] {
	return func(yield func(signs) bool) {
		s := l.signs
		for _, meeting := range l.points {
			if !yield(s) {
				return
			}
			s = s.turned(meeting)
		}
		yield(s)
	}
}

// segments returns the number of segments of all lines.
func segments(planes []api.Plane) int {
	n := 0
	for l := range lines(planes, first(len(planes))) {
		n += len(l.points) + 1
	}
	return n
}
