package solid

import (
	"math/bits"

	"spokeshave/api"
)

// mask is a set of planes: bit i for plane i. A cell, a piece of a plane or a segment is called by the set of those planes on whose outer side it is.
type mask uint64

func only(i int) mask {
	return 1 << i
}

// maskOf returns what the cell with the name is called by.
func maskOf(name string) mask {
	var m mask
	for i, sign := range name {
		if sign == '+' {
			m |= only(i)
		}
	}
	return m
}

// enclosed returns for each cell whether the faces enclose it: whether one comes to it, from outside, through an odd number of them. What the edges on a plane enclose is found in the same way: the pieces that are parts of faces.
func enclosed(s api.Solid, planes []api.Plane, names []string) map[mask]bool {
	f := frameOf(s, planes, names)
	covered := make([]map[mask]bool, len(planes))
	across := make([]mask, len(planes))
	for i := range planes {
		covered[i] = spread(f.pieces(i), f.lines[i], f.isEdge(i))
		across[i] = only(i)
	}
	isFace := func(from, step mask) bool {
		return covered[bits.TrailingZeros64(uint64(step))][from&^step]
	}
	return spread(f.cells, across, isFace)
}

// spread returns for each place whether one comes to it, from one that is not bounded, through an odd number of walls. A step leads to a place across some planes: those of an element of steps.
func spread(places, steps []mask, isWall func(from, step mask) bool) map[mask]bool {
	isPlace := setOf(places)
	first := farOff(places, steps, isPlace)
	isInside := map[mask]bool{first: false}
	for reached := []mask{first}; len(reached) > 0; {
		from := reached[0]
		reached = reached[1:]
		for _, step := range steps {
			to := from ^ step
			if _, isKnown := isInside[to]; isPlace[to] && !isKnown {
				isInside[to] = isInside[from] != isWall(from, step)
				reached = append(reached, to)
			}
		}
	}
	return isInside
}

// farOff returns a place that is not bounded: one where a line begins that crosses all planes across which steps lead. There is such a line just where there is a place on the other sides of all of these planes.
func farOff(places, steps []mask, isPlace map[mask]bool) mask {
	var all mask
	for _, step := range steps {
		all |= step
	}
	var first mask
	for _, p := range places {
		if isPlace[p^all] {
			first = p
			break
		}
	}
	return first
}

func setOf(l []mask) map[mask]bool {
	set := map[mask]bool{}
	for _, m := range l {
		set[m] = true
	}
	return set
}
