package arrange

import (
	"strconv"

	"spokeshave/api"
	"spokeshave/place"
	"spokeshave/sums"
)

// cell is one of a list of planes, or, where spanning adds planes, one of those into which these cut it.
type cell struct {
	planes []api.Plane // those of the list, and those that spanning adds
	count  int         // of those of the list
	signs  signs
}

// find returns the cell with the name s, if there is one: then it has a segment.
func find(planes []api.Plane, s string) (cell, bool) {
	given, ok := read(s, len(planes))
	if !ok {
		return cell{}, false
	}
	all := spanning(planes)
	// Any signs will do for the planes that were added.
	given[1] |= first(len(all)) &^ first(len(planes))
	c := cell{all, len(planes), given}
	for range c.edges() {
		return c, true
	}
	return cell{}, false
}

// named returns the cell with the name s, or the error of planes that are not a list, or of a name that is not that of a cell.
func named(planes []api.Plane, s string) (cell, api.Errno) {
	if e := areList(planes); e != api.OK {
		return cell{}, e
	}
	c, ok := find(planes, s)
	if !ok {
		return cell{}, api.ErrArg
	}
	return c, api.OK
}

// isBounded looks for segments without an end. Where planes were added, there are some: each of these planes leaves a half of what it cuts, without an end as well.
func (c cell) isBounded() bool {
	for e := range c.edges() {
		if !e.low.exists() || !e.high.exists() {
			return false
		}
	}
	return true
}

// sides returns the planes of the list that bound the cell.
func (c cell) sides() set {
	var sides set
	for e := range c.edges() {
		sides |= e.sides
	}
	return sides & first(c.count)
}

// inner returns a point of the cell, up to the weight: the sum of its corners, and of the directions in which its segments have no end. Each of them is less than 2^43, and there are less than 300.
func (c cell) inner() [4]int64 {
	var q [4]int64
	for e := range c.edges() {
		q = total(q, e.tip(e.low, -1), e.tip(e.high, 1))
	}
	return q
}

// contains returns whether q is on all the sides on which the cell is.
func (c cell) contains(q place.Place) bool {
	for i, p := range c.planes[:c.count] {
		if q.Side(p) != c.signs.of(i) {
			return false
		}
	}
	return true
}

func total(l ...[4]int64) [4]int64 {
	var t [4]int64
	for _, q := range l {
		for i, n := range q {
			t[i] += n
		}
	}
	return t
}

// ratio writes num / den, where den is greater than 0.
func ratio(num, den int64) string {
	// What is an int64 stays one when it is divided.
	n, _ := sums.Lowest(sums.Of(num), sums.Of(den))
	text := strconv.FormatInt(n[0], 10)
	if n[1] == 1 {
		return text
	}
	return text + "/" + strconv.FormatInt(n[1], 10)
}
