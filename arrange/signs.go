package arrange

import (
	"iter"
	"math/bits"
)

// set is a set of planes of a list: bit i for plane i. There are at most MaxPlanes, and three that spanning adds.
type set uint64

// signs are those of a point for a list of planes: the set of those on whose outer side it is, and the set of those on whose inner side it is.
type signs [2]set

// only is the set of plane i alone.
func only(i int) set {
	return 1 << i
}

// first is the set of the first n planes.
func first(n int) set {
	return only(n) - 1
}

// all goes over the planes of the set, rising.
func (s set) all() iter.Seq[int] {
	return func(yield func(int) bool) {
		for rest := s; rest != 0; rest &= rest - 1 {
			if !yield(bits.TrailingZeros64(uint64(rest))) {
				return
			}
		}
	}
}

// read makes the signs of a string that has no other characters than n of + and -.
func read(s string, n int) (signs, bool) {
	var l signs
	if len(s) != n {
		return l, false
	}
	for i, c := range s {
		switch c {
		case '+':
			l = l.with(i, 1)
		case '-':
			l = l.with(i, -1)
		default:
			return signs{}, false
		}
	}
	return l, true
}

// text writes the signs of n planes.
func (s signs) text(n int) string {
	text := make([]byte, n)
	for i := range text {
		text[i] = "-0+"[s.of(i)+1]
	}
	return string(text)
}

// of returns -1, 0 or 1: the sign for plane i.
func (s signs) of(i int) int {
	return int(s[0]>>i&1) - int(s[1]>>i&1)
}

// with returns s with another sign for plane i, for which it has none.
func (s signs) with(i, side int) signs {
	switch {
	case side > 0:
		s[0] |= only(i)
	case side < 0:
		s[1] |= only(i)
	}
	return s
}

// and returns s with the signs of t for planes for which it has none.
func (s signs) and(t signs) signs {
	return signs{s[0] | t[0], s[1] | t[1]}
}

// within returns the signs for the planes of a set alone.
func (s signs) within(l set) signs {
	return signs{s[0] & l, s[1] & l}
}

// turned returns s with the other signs for the planes of a set, for which it has signs.
func (s signs) turned(l set) signs {
	return signs{s[0] ^ l, s[1] ^ l}
}

// opposite returns the other signs for all planes.
func (s signs) opposite() signs {
	return signs{s[1], s[0]}
}
