package arrange

import (
	"iter"

	"spokeshave/point"
)

// edge is a segment that a cell has, which grows shorter with each plane that is taken into account.
type edge struct {
	course
	ends
	pencil set // the planes that contain the segment
	sides  set // the two of them that bound the cell
}

// ends are those of a segment.
type ends struct{ low, high end }

// end is the plane at which a segment ends, and its height. Where a segment has no end, it is the zero value.
type end struct {
	height
	plane int
}

// edges goes over the segments of the cell.
func (c cell) edges() iter.Seq[edge] {
	return func(yield func(edge) bool) {
	search:
		for way := range courses(c.planes) {
			e := edge{course: way}
			for r := range c.planes {
				if !e.cut(r, c.signs.of(r)) {
					continue search
				}
			}
			if !e.isFirst(e.pencil) {
				continue
			}
			e.sides = e.bounding(c.signs.within(e.pencil))
			if e.sides != 0 && !yield(e) {
				return
			}
		}
	}
}

// cut takes away what is not on the side of plane r, and returns whether something is left.
func (e *edge) cut(r, side int) bool {
	h := e.height(r)
	switch h.way() {
	case 0:
		if h == (height{}) {
			e.pencil |= only(r)
			return true
		}
		return h.side() == side
	case side:
		if !e.low.exists() || e.low.order(h) < 0 {
			e.low = end{h, r}
		}
	default:
		if !e.high.exists() || e.high.order(h) > 0 {
			e.high = end{h, r}
		}
	}
	return !e.low.exists() || !e.high.exists() || e.low.order(e.high.height) < 0
}

// bounding returns which planes of the pencil bound what has these signs for them: two, or none if nothing has.
func (e *edge) bounding(s signs) set {
	var sides set
	sector := e.sectors(e.pencil)
	for i := range e.pencil.all() {
		half, others := sector(i), s.within(e.pencil&^only(i))
		if half == others || half == others.opposite() {
			sides |= only(i)
		}
	}
	return sides
}

// tip returns the corner at an end of the segment or, if there is none, the direction in which the segment has no end, with the weight 0.
func (e *edge) tip(at end, way int64) [4]int64 {
	if !at.exists() {
		return [4]int64{way * e.along[0], way * e.along[1], way * e.along[2]}
	}
	q, _ := point.Meet(e.planes[e.first], e.planes[e.second], e.planes[at.plane])
	return q
}

// exists is true for each plane that the line crosses, since that has a slope.
func (e end) exists() bool {
	return e != end{}
}
