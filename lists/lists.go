// Package lists has what several layers do with lists.
package lists

import "slices"

// Sorted returns all of l in the order of compare, each once. Elements that compare as 0 are equal.
func Sorted[T comparable](l []T, compare func(a, b T) int) []T {
	sorted := append([]T(nil), l...)
	slices.SortFunc(sorted, compare)
	return slices.Compact(sorted)
}

// Picked returns the characters of s at some places.
func Picked(s string, at []int) string {
	l := make([]byte, len(at))
	for n, i := range at {
		l[n] = s[i]
	}
	return string(l)
}
