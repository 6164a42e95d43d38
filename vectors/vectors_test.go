package vectors_test

import (
	"testing"

	"spokeshave/api"
	"spokeshave/vectors"
)

func TestProducts(t *testing.T) {
	u, v := vectors.Normal(api.Plane{1, 2, 3, 4}), vectors.Vector{-5, 7, 11}
	if u != (vectors.Vector{1, 2, 3}) {
		t.Errorf("Normal: %v", u)
	}
	if got := vectors.Cross(u, v); got != (vectors.Vector{1, -26, 17}) {
		t.Errorf("Cross: %v", got)
	}
	if got := vectors.Dot(u, v); got != 42 {
		t.Errorf("Dot: %d", got)
	}
	x, y, z := vectors.Vector{1, 0, 0}, vectors.Vector{0, 1, 0}, vectors.Vector{0, 0, 1}
	if vectors.Cross(x, y) != z || vectors.Cross(y, z) != x || vectors.Cross(z, x) != y {
		t.Errorf("the axes do not go round")
	}
}

// A normal with the product of the two longest directions.
func TestTheLongest(t *testing.T) {
	n := vectors.Vector{1000, 1000, 1000}
	u, v := vectors.Vector{2000000, -2000000, 2000000}, vectors.Vector{2000000, 2000000, -2000000}
	if got := vectors.Dot(n, vectors.Cross(u, v)); got != 16_000_000_000_000_000 {
		t.Errorf("a product of three: %d", got)
	}
}
