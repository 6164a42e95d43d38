package boundary

import (
	"spokeshave/api"
	"spokeshave/line"
)

// way is a direction, by what it leads to: bit i of outward is set if that is the outer side of plane i, bit i of inward if it is the inner side.
type way struct{ outward, inward uint64 }

// areBounded demands that all cells of the set are bounded.
func areBounded(s set) api.Errno {
	ways := waysOf(s.planes)
	for _, name := range s.cells {
		if s.listed[name] && !isBounded(name, ways) {
			return api.ErrOpen
		}
	}
	return api.OK
}

// isBounded returns whether there are lines, and no way of one stays in the cell for ever. The directions that stay in a cell are a cone: if some three planes meet in one point, the edges of this cone are ways of lines. If not, no cell is bounded, and there is no line, or its ways lead to no side of any plane.
func isBounded(name string, ways []way) bool {
	var outer uint64
	for i, c := range name {
		if c == '+' {
			outer |= 1 << i
		}
	}
	for _, w := range ways {
		if w.outward&^outer == 0 && w.inward&outer == 0 {
			return false
		}
	}
	return len(ways) > 0
}

// waysOf returns both ways of all lines on which planes meet, each once.
func waysOf(planes []api.Plane) []way {
	var ways []way
	known := map[way]bool{}
	for j, q := range planes {
		for _, p := range planes[:j] {
			if _, e := line.Direction(p, q); e != api.OK {
				continue
			}
			w := wayOf(p, q, planes)
			for _, w := range [...]way{w, {w.inward, w.outward}} {
				if !known[w] {
					known[w] = true
					ways = append(ways, w)
				}
			}
		}
	}
	return ways
}

// wayOf returns the direction of the line of p and q.
func wayOf(p, q api.Plane, planes []api.Plane) way {
	var w way
	for i, r := range planes {
		switch crosses, _ := line.Crosses(p, q, r); crosses {
		case 1:
			w.outward |= 1 << i
		case -1:
			w.inward |= 1 << i
		}
	}
	return w
}
