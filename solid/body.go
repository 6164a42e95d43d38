package solid

import (
	"spokeshave/api"
	"spokeshave/arrange"
	"spokeshave/boundary"
	"spokeshave/lists"
	"spokeshave/plane"
)

// body is a solid that is right, as cells of its planes.
type body struct {
	planes []api.Plane
	inner  map[mask]bool // for each cell whether it lies in the solid
}

// read makes the body of a solid, or returns ErrSolid if the solid is not right. A right one is what chapter 7 makes of the cells that its faces enclose. What is not right is not made of any cells, so that it does not matter which ones are found for it.
func read(s api.Solid) (body, api.Errno) {
	if len(s.Faces) > api.MaxFaces || !areOnPlanes(s) {
		return body{}, api.ErrSolid
	}
	planes, e := planesOf(s)
	if e != api.OK || len(planes) > api.MaxPlanes {
		return body{}, api.ErrSolid
	}
	names, _ := arrange.Cells(planes)
	b := body{planes, enclosed(s, planes, names)}
	made, e := boundary.Make(planes, chosen(names, b.contains))
	if e != api.OK || !areSame(s, made) {
		return body{}, api.ErrSolid
	}
	return b, api.OK
}

// areOnPlanes returns whether all points are right, and on the planes of their faces.
func areOnPlanes(s api.Solid) bool {
	are := true
search:
	for p, loop := range loops(s) {
		for _, q := range loop {
			if side, e := plane.Side(p, q); e != api.OK || side != 0 {
				are = false
				break search
			}
		}
	}
	return are
}

// planesOf returns the planes on which the faces are, or ErrPlane. There are no more faces than planes that plane.Sort takes.
func planesOf(s api.Solid) ([]api.Plane, api.Errno) {
	var l []api.Plane
	for _, f := range s.Faces {
		p, e := plane.Shown(f.Plane)
		if e != api.OK {
			return nil, e
		}
		l = append(l, p)
	}
	return plane.Sort(l)
}

// contains returns whether the cell with the name lies in the solid.
func (b body) contains(name string) bool {
	return b.inner[maskOf(name)]
}

// containsOf returns what tells, by its name, whether a cell of a list of planes lies in the solid, or ErrArg if a plane of the solid is not in the list.
func (b body) containsOf(planes []api.Plane) (func(name string) bool, api.Errno) {
	index := map[api.Plane]int{}
	for i, p := range planes {
		shown, _ := plane.Shown(p)
		index[shown] = i
	}
	var turned mask
	places := make([]int, len(b.planes))
	for n, p := range b.planes {
		i, isThere := index[p]
		if !isThere {
			return nil, api.ErrArg
		}
		if planes[i] != p {
			turned |= only(n)
		}
		places[n] = i
	}
	return func(name string) bool {
		return b.inner[maskOf(lists.Picked(name, places))^turned]
	}, api.OK
}

// chosen returns those names for which all is right.
func chosen(names []string, isRight func(name string) bool) []string {
	var l []string
	for _, name := range names {
		if isRight(name) {
			l = append(l, name)
		}
	}
	return l
}
