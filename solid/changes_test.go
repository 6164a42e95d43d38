package solid_test

import (
	"slices"

	"spokeshave/api"
	"spokeshave/point"
)

// changes are those that make a solid wrong, at the face i of it. Where one does not apply, it changes nothing.
func changes() map[string]func(s *api.Solid, i int) {
	loop := func(s *api.Solid, i int) *[]api.Point { return &s.Faces[i].Loops[len(s.Faces[i].Loops)-1] }
	l := map[string]func(s *api.Solid, i int){
		"a loop that begins elsewhere": func(s *api.Solid, i int) {
			l := loop(s, i)
			*l = append((*l)[1:], (*l)[0])
		},
		"a loop that begins at its last point": func(s *api.Solid, i int) {
			l := loop(s, i)
			n := len(*l) - 1
			*l = append([]api.Point{(*l)[n]}, (*l)[:n]...)
		},
		"a loop turned": func(s *api.Solid, i int) { slices.Reverse((*loop(s, i))[1:]) },
		"all loops of a face turned": func(s *api.Solid, i int) {
			for _, l := range s.Faces[i].Loops {
				slices.Reverse(l[1:])
			}
		},
		"a loop passed through twice": func(s *api.Solid, i int) {
			l := loop(s, i)
			*l = slices.Concat(*l, *l)
		},
		"a point twice": func(s *api.Solid, i int) {
			l := loop(s, i)
			*l = slices.Insert(*l, 1, (*l)[1])
		},
		"a corner left out of a loop": func(s *api.Solid, i int) {
			l := loop(s, i)
			*l = slices.Delete(*l, 1, 2)
		},
		"a corner left out of all loops": func(s *api.Solid, i int) {
			q := (*loop(s, i))[1]
			everywhere(s, func(l []api.Point) []api.Point {
				return slices.DeleteFunc(l, func(a api.Point) bool { return a == q })
			})
		},
		"a loop of two points": func(s *api.Solid, i int) { *loop(s, i) = (*loop(s, i))[:2] },
		"a loop of one point":  func(s *api.Solid, i int) { *loop(s, i) = (*loop(s, i))[:1] },
		"a loop of no points":  func(s *api.Solid, i int) { *loop(s, i) = nil },
		"a loop of no points more": func(s *api.Solid, i int) {
			s.Faces[i].Loops = append(s.Faces[i].Loops, nil)
		},
		"a loop of no points before all": func(s *api.Solid, i int) {
			s.Faces[i].Loops = slices.Insert(s.Faces[i].Loops, 0, []api.Point{})
		},
		"a loop of one point more": func(s *api.Solid, i int) {
			s.Faces[i].Loops = append(s.Faces[i].Loops, []api.Point{(*loop(s, i))[0]})
		},
		"a loop there and back more": func(s *api.Solid, i int) {
			l := *loop(s, i)
			s.Faces[i].Loops = append(s.Faces[i].Loops, []api.Point{l[0], l[1]})
		},
		"a face without loops": func(s *api.Solid, i int) { s.Faces[i].Loops = nil },
		"a face without loops more": func(s *api.Solid, i int) {
			s.Faces = slices.Insert(s.Faces, i, api.Face{Plane: s.Faces[i].Plane})
		},
		"a face left out":   func(s *api.Solid, i int) { s.Faces = slices.Delete(s.Faces, i, i+1) },
		"a face twice":      func(s *api.Solid, i int) { s.Faces = slices.Insert(s.Faces, i, s.Faces[i]) },
		"a face at the end": func(s *api.Solid, i int) { s.Faces = append(slices.Delete(slices.Clone(s.Faces), i, i+1), s.Faces[i]) },
		"a face twice, on both ends": func(s *api.Solid, i int) {
			s.Faces = append(s.Faces, s.Faces[i])
		},
		"a face and its other side": func(s *api.Solid, i int) {
			other := turnedOut(api.Solid{Faces: s.Faces[i : i+1]})
			*s = inOrder(append(s.Faces, other.Faces...)...)
		},
		"two faces exchanged": func(s *api.Solid, i int) {
			k := (i + 1) % len(s.Faces)
			s.Faces[i], s.Faces[k] = s.Faces[k], s.Faces[i]
		},
		"all faces in the other order": func(s *api.Solid, i int) { slices.Reverse(s.Faces) },
		"loops in the other order":     func(s *api.Solid, i int) { slices.Reverse(s.Faces[i].Loops) },
		"holes in the other order": func(s *api.Solid, i int) {
			slices.Reverse(s.Faces[i].Loops[1:])
		},
		"a hole left out": func(s *api.Solid, i int) {
			if n := len(s.Faces[i].Loops); n > 1 {
				s.Faces[i].Loops = s.Faces[i].Loops[:n-1]
			}
		},
		"a hole as a face": func(s *api.Solid, i int) {
			if n := len(s.Faces[i].Loops); n > 1 {
				hole := s.Faces[i].Loops[n-1]
				s.Faces[i].Loops = s.Faces[i].Loops[:n-1]
				s.Faces = slices.Insert(s.Faces, i+1, api.Face{Plane: s.Faces[i].Plane, Loops: [][]api.Point{hole}})
			}
		},
		"two faces on one plane as one": func(s *api.Solid, i int) {
			if k := i + 1; k < len(s.Faces) && s.Faces[i].Plane == s.Faces[k].Plane {
				s.Faces[i].Loops = append(s.Faces[i].Loops, s.Faces[k].Loops...)
				s.Faces = slices.Delete(s.Faces, k, k+1)
			}
		},
		"the opposite plane": func(s *api.Solid, i int) { s.Faces[i].Plane = opposite(s.Faces[i].Plane) },
		"a face seen from the other side": func(s *api.Solid, i int) {
			s.Faces[i] = turnedOut(api.Solid{Faces: s.Faces[i : i+1]}).Faces[0]
		},
		"a face seen from the other side, in order": func(s *api.Solid, i int) {
			s.Faces[i] = turnedOut(api.Solid{Faces: s.Faces[i : i+1]}).Faces[0]
			*s = inOrder(s.Faces...)
		},
		"a multiple of a plane": func(s *api.Solid, i int) { s.Faces[i].Plane = times(s.Faces[i].Plane, 2) },
		"a multiple of the opposite plane": func(s *api.Solid, i int) {
			s.Faces[i].Plane = times(s.Faces[i].Plane, -3)
		},
		"a multiple of a point":         func(s *api.Solid, i int) { (*loop(s, i))[1] = times((*loop(s, i))[1], 2) },
		"a point with its signs turned": func(s *api.Solid, i int) { (*loop(s, i))[2] = times((*loop(s, i))[2], -1) },
		"another plane":                 func(s *api.Solid, i int) { s.Faces[i].Plane[3]++ },
		"all in one":                    func(s *api.Solid, i int) { s.Faces = append(s.Faces, s.Faces...) },
	}
	addMoves(l)
	addDivisions(l)
	addWrongData(l)
	return l
}

// addMoves adds changes that move corners and faces.
func addMoves(l map[string]func(s *api.Solid, i int)) {
	for name, v := range map[string][3]int64{"x": {1, 0, 0}, "y": {0, -1, 0}, "z": {0, 0, 1}, "all axes": {1, 2, 3}} {
		moved := func(q api.Point) api.Point {
			to, _ := point.Shift(q, v)
			return to
		}
		l["a corner of a loop moved along "+name] = func(s *api.Solid, i int) {
			last := s.Faces[i].Loops[len(s.Faces[i].Loops)-1]
			last[1] = moved(last[1])
		}
		l["a corner of all loops moved along "+name] = func(s *api.Solid, i int) {
			q := s.Faces[i].Loops[0][1]
			everywhere(s, func(l []api.Point) []api.Point {
				for k, a := range l {
					if a == q {
						l[k] = moved(q)
					}
				}
				return l
			})
		}
		l["a loop moved along "+name] = func(s *api.Solid, i int) {
			for k, q := range s.Faces[i].Loops[0] {
				s.Faces[i].Loops[0][k] = moved(q)
			}
		}
	}
}

// addDivisions adds changes that divide edges, where nothing is, and faces.
func addDivisions(l map[string]func(s *api.Solid, i int)) {
	l["a point on an edge of a loop"] = func(s *api.Solid, i int) {
		loop := s.Faces[i].Loops[0]
		if m, e := point.Middle(loop[0], loop[1]); e == api.OK {
			s.Faces[i].Loops[0] = slices.Insert(loop, 1, m)
		}
	}
	l["a point on an edge of all loops"] = func(s *api.Solid, i int) {
		a, b := s.Faces[i].Loops[0][0], s.Faces[i].Loops[0][1]
		m, e := point.Middle(a, b)
		if e != api.OK {
			return
		}
		everywhere(s, func(l []api.Point) []api.Point {
			var divided []api.Point
			for k, q := range l {
				next := l[(k+1)%len(l)]
				divided = append(divided, q)
				if q == a && next == b || q == b && next == a {
					divided = append(divided, m)
				}
			}
			return divided
		})
		*s = inOrder(s.Faces...)
	}
	l["a face divided in two"] = func(s *api.Solid, i int) {
		f := s.Faces[i]
		if len(f.Loops) > 1 || len(f.Loops[0]) < 4 {
			return
		}
		loop, rest := f.Loops[0], slices.Clone(s.Faces)
		half := func(l []api.Point) api.Face { return api.Face{Plane: f.Plane, Loops: [][]api.Point{l}} }
		*s = inOrder(append(slices.Delete(rest, i, i+1), half(loop[:3]), half(append(slices.Clone(loop[2:]), loop[0])))...)
	}
}

// addWrongData adds changes to planes and points that are not right.
func addWrongData(l map[string]func(s *api.Solid, i int)) {
	l["a plane that is not right"] = func(s *api.Solid, i int) { s.Faces[i].Plane = wrongPlanes()[i%len(wrongPlanes())] }
	l["a point that is not right"] = func(s *api.Solid, i int) {
		loop := s.Faces[i].Loops[0]
		loop[i%len(loop)] = wrongPoints()[i%len(wrongPoints())]
	}
	l["a plane that is not right more"] = func(s *api.Solid, i int) {
		s.Faces = slices.Insert(s.Faces, i, api.Face{Plane: wrongPlanes()[i%len(wrongPlanes())]})
	}
}

// everywhere changes all loops.
func everywhere(s *api.Solid, change func(l []api.Point) []api.Point) {
	for _, f := range s.Faces {
		for k := range f.Loops {
			f.Loops[k] = change(f.Loops[k])
		}
	}
}

func times(l [4]int64, by int64) [4]int64 {
	for i := range l {
		l[i] *= by
	}
	return l
}
