package place

// A digit has so many decimal places that an int64 holds the product of two with two more added to it, and the product of one and a plane's coefficient a thousand times.
const (
	places = 9
	base   = 1_000_000_000
)

// digits are those of an integer that is not less than 0, the lowest first. There may be zeros at the top.
type digits []int64

// read makes the digits of a number of package wide that is not less than 0.
func read(a string) digits {
	d := make(digits, (len(a)+places-1)/places)
	for i, c := range a {
		at := (len(a) - 1 - i) / places
		d[at] = d[at]*10 + int64(c-'0')
	}
	return d
}

func (d digits) times(f digits) digits {
	product := make(digits, len(d)+len(f))
	for i, factor := range d {
		carry := int64(0)
		for j, digit := range f {
			carry += factor*digit + product[i+j]
			product[i+j] = carry % base
			carry /= base
		}
		product[i+len(f)] = carry
	}
	return product
}

// total is a sum of multiples. What stands at a place may be less than 0, and greater than a digit.
type total []int64

// add adds k d.
func (t *total) add(d digits, k int64) {
	for i, digit := range d {
		if i == len(*t) {
			*t = append(*t, 0)
		}
		(*t)[i] += k * digit
	}
}

// sign carries all up to the top. What is left below is from 0 to less than the base, and so is less than 1 at the top.
func (t total) sign() int {
	carry, below := int64(0), 0
	for _, n := range t {
		carry += n
		rest := carry % base
		if rest < 0 {
			rest += base
		}
		if rest > 0 {
			below = 1
		}
		carry = (carry - rest) / base
	}
	switch {
	case carry < 0:
		return -1
	case carry > 0:
		return 1
	}
	return below
}
