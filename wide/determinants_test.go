package wide_test

import (
	"strings"
	"testing"

	"spokeshave/api"
	"spokeshave/wide"
)

func det(t *testing.T, m [][]string) string {
	t.Helper()
	s, e := wide.Determinant(m)
	return value(t, s, e)
}

// matrix reads rows with `;` between them.
func matrix(text string) [][]string {
	var m [][]string
	for row := range strings.SplitSeq(text, ";") {
		m = append(m, strings.Fields(row))
	}
	return m
}

func (r *rolls) matrix(n, digits int) [][]string {
	m := make([][]string, n)
	for i := range m {
		for range n {
			m[i] = append(m[i], r.number(digits))
		}
	}
	return m
}

func TestDeterminant(t *testing.T) {
	for _, c := range [][2]string{
		{"7", "7"}, {"-7", "-7"}, {"0", "0"}, {"1 2; 3 4", "-2"}, {"0 1; 1 0", "-1"}, {"1 2; 2 4", "0"}, {"0 0; 0 0", "0"}, {"2 0 1; 1 3 2; 1 1 4", "18"},
		{"1 2 3; 4 5 6; 7 8 9", "0"}, {"1 1 1; 2 3 5; 4 9 25", "6"}, {"1 1 1 1; 2 3 5 7; 4 9 25 49; 8 27 125 343", "240"},
		{"2 -1 0 0 0; -1 2 -1 0 0; 0 -1 2 -1 0; 0 0 -1 2 -1; 0 0 0 -1 2", "6"}, {"2 -1 0 0 0 0; -1 2 -1 0 0 0; 0 -1 2 -1 0 0; 0 0 -1 2 -1 0; 0 0 0 -1 2 -1; 0 0 0 0 -1 2", "7"},
		{"0 0 0 0 0 1; 0 0 0 0 2 9; 0 0 0 3 9 9; 0 0 4 9 9 9; 0 5 9 9 9 9; 6 9 9 9 9 9", "-720"},
		{"5 9 9 9 9 9; 0 7 9 9 9 9; 0 0 -11 9 9 9; 0 0 0 13 9 9; 0 0 0 0 17 9; 0 0 0 0 0 19", "-1616615"},
		{"100000000000000000000 1; 1 100000000000000000000", "9999999999999999999999999999999999999999"},
		{"4294967296 0; 0 4294967296", "18446744073709551616"},
	} {
		same(t, c[0], det(t, matrix(c[0])), api.OK, c[1])
	}
	same(t, "nil", det(t, nil), api.OK, "1")
	same(t, "no rows", det(t, [][]string{}), api.OK, "1")
}

// TestPermutations takes each way to put one number other than 0 into each row and column: the sign of each product is seen alone.
func TestPermutations(t *testing.T) {
	for n := range 7 {
		var place func(m [][]string, used []bool, want int64)
		place = func(m [][]string, used []bool, want int64) {
			if len(m) == n {
				same(t, "permutation", det(t, m), api.OK, wide.FromInt(want))
				return
			}
			for i := range n {
				if used[i] {
					continue
				}
				sign := int64(1)
				for j := i + 1; j < n; j++ {
					if used[j] {
						sign = -sign
					}
				}
				row := strings.Fields(strings.Repeat("0 ", n))
				row[i] = wide.FromInt(int64(len(m) + 2))
				used[i] = true
				place(append(m, row), used, want*sign*int64(len(m)+2))
				used[i] = false
			}
		}
		place(nil, make([]bool, n), 1)
	}
}

func TestDeterminantFails(t *testing.T) {
	for _, text := range []string{"1 2", "1; 2", "1 2; 3", "1; 2 3", "1 2 3; 4 5 6", "1 2; 3 4; 5 6", "1 2; 3 4 5", "1 0 0; 0 1 0; 0 0", "; 1 2", "1 2;", ";", ";;;;;;;", "0 0 0"} {
		s, e := wide.Determinant(matrix(text))
		fails(t, text, s, e, api.ErrArg)
	}
	s, e := wide.Determinant([][]string{nil})
	fails(t, "a row of none", s, e, api.ErrArg)
	for _, n := range []int{7, 8, 12} {
		m := make([][]string, n)
		for i := range m {
			m[i] = strings.Fields(strings.Repeat("0 ", n))
		}
		s, e = wide.Determinant(m)
		fails(t, "many rows", s, e, api.ErrArg)
		for i := range m {
			m[i] = strings.Fields(strings.Repeat(nines(2000)+" ", n))
		}
		s, e = wide.Determinant(m)
		fails(t, "many rows of long numbers", s, e, api.ErrArg)
	}
}

func TestDeterminantTooLarge(t *testing.T) {
	a, b := ten(1000), ten(999)
	s, e := wide.Determinant([][]string{{a, "0"}, {"0", a}})
	fails(t, "2001 digits", s, e, api.ErrLarge)
	s, e = wide.Determinant([][]string{{"0", a}, {a, "0"}})
	fails(t, "2001 digits and a sign", s, e, api.ErrLarge)
	same(t, "2000 digits", det(t, [][]string{{a, "0"}, {"0", b}}), api.OK, ten(1999))
	same(t, "2000 digits and a sign", det(t, [][]string{{"0", a}, {b, "0"}}), api.OK, "-"+ten(1999))
	top := nines(2000)
	same(t, "one element", det(t, [][]string{{top}}), api.OK, top)
	same(t, "long products, of which little is left", det(t, [][]string{{top, nines(1999) + "8"}, {nines(1999) + "8", nines(1999) + "7"}}), api.OK, "-1")
	m := make([][]string, 6)
	for i := range m {
		m[i] = []string{top, top, top, top, top, top}
	}
	same(t, "equal rows", det(t, m), api.OK, "0")
	for i := range m {
		m[i][i] = "0"
	}
	s, e = wide.Determinant(m)
	fails(t, "six long rows", s, e, api.ErrLarge)
}

// TestRows is P1.6, and the same for columns.
func TestRows(t *testing.T) {
	var r rolls
	for i := range 120 {
		n := 2 + i%5
		m := r.matrix(n, 100)
		d := det(t, m)
		p, q := r.below(n), r.below(n)
		if p == q {
			continue
		}
		m[p], m[q] = m[q], m[p]
		same(t, "rows exchanged", det(t, m), api.OK, turned(d))
		factor := r.number(20)
		for j := range n {
			m[p][j] = add(t, m[p][j], mul(t, factor, m[q][j]))
		}
		same(t, "a multiple added", det(t, m), api.OK, turned(d))
		for j := range n {
			m[j][p], m[j][q] = m[j][q], m[j][p]
		}
		same(t, "columns exchanged", det(t, m), api.OK, d)
		for j := range n {
			m[p][j] = mul(t, factor, m[p][j])
		}
		same(t, "a row multiplied", det(t, m), api.OK, mul(t, factor, d))
		m[p] = m[q]
		same(t, "equal rows", det(t, m), api.OK, "0")
	}
}

func TestProductOfMatrices(t *testing.T) {
	var r rolls
	for i := range 60 {
		n := 1 + i%6
		a, b := r.matrix(n, 80), r.matrix(n, 80)
		product := make([][]string, n)
		for j := range n {
			for k := range n {
				sum := "0"
				for l := range n {
					sum = add(t, sum, mul(t, a[j][l], b[l][k]))
				}
				product[j] = append(product[j], sum)
			}
		}
		same(t, "a product", det(t, product), api.OK, mul(t, det(t, a), det(t, b)))
	}
}
