// Package place has points whose coordinates are ratios of any length, and tells on which side of planes they are.
package place

import (
	"strings"

	"spokeshave/api"
	"spokeshave/ratio"
)

// Place is a point: three coordinates and a weight, as those of api.Point. Each number is a sign, and the digits of its absolute value. The weight is greater than 0.
type Place struct {
	signs  [4]int64
	digits [4]digits
}

// Read makes the point with the coordinates x, if they are ratios.
func Read(x [3]string) (Place, bool) {
	q := Place{signs: [4]int64{3: 1}}
	var nums, dens [3]digits
	for i, a := range x {
		num, den, e := ratio.Parts(a)
		if e != api.OK {
			return Place{}, false
		}
		size, negative := strings.CutPrefix(num, "-")
		q.signs[i] = 1
		if negative {
			q.signs[i] = -1
		}
		nums[i], dens[i] = read(size), read(den)
	}
	for i := range x {
		q.digits[i] = nums[i].times(dens[(i+1)%3]).times(dens[(i+2)%3])
	}
	q.digits[3] = dens[0].times(dens[1]).times(dens[2])
	return q, true
}

// Side returns -1, 0 or 1, as q is on the inner side of p, which is right, on p, or on the outer side.
func (q Place) Side(p api.Plane) int {
	var t total
	for i, d := range q.digits {
		t.add(d, p[i]*q.signs[i])
	}
	return t.sign()
}
