package wide

import (
	"cmp"
	"iter"
)

// A word is wordDigits decimal digits, so that text is read and written word by word, and a product of two words with two more added to it is a uint64.
const (
	wordDigits = 9
	wordZeros  = "000000000"
	base       = 1_000_000_000
)

// words are the digits of an integer that is not less than 0, to the base of a word, the lowest first. The last one is not 0; 0 has none.
type words []uint64

// trimmed cuts off zeros at the top. The capacity is cut too, so that an append never writes into them.
func (w words) trimmed() words {
	n := len(w)
	for n > 0 && w[n-1] == 0 {
		n--
	}
	return w[:n:n]
}

// down goes over the words and their positions, from the highest on.
func (w words) down() iter.Seq2[int, uint64] {
	return func(yield func(int, uint64) bool) {
		for i := len(w) - 1; i >= 0; i-- {
			if !yield(i, w[i]) {
				return
			}
		}
	}
}

func compareWords(x, y words) int {
	if len(x) != len(y) {
		return cmp.Compare(len(x), len(y))
	}
	for i, word := range x.down() {
		if word != y[i] {
			return cmp.Compare(word, y[i])
		}
	}
	return 0
}

func addWords(x, y words) words {
	if len(x) < len(y) {
		x, y = y, x
	}
	z := make(words, len(x)+1)
	carry := uint64(0)
	for i, word := range x {
		carry += word
		if i < len(y) {
			carry += y[i]
		}
		z[i] = carry % base
		carry /= base
	}
	z[len(x)] = carry
	return z.trimmed()
}

// subtractWords returns x - y, where x is not less than y.
func subtractWords(x, y words) words {
	z := make(words, len(x))
	borrow := uint64(0)
	for i, word := range x {
		less := borrow
		if i < len(y) {
			less += y[i]
		}
		borrow = 0
		if word < less {
			word += base
			borrow = 1
		}
		z[i] = word - less
	}
	return z.trimmed()
}

func multiplyWords(x, y words) words {
	z := make(words, len(x)+len(y))
	for i, factor := range x {
		carry := uint64(0)
		for j, word := range y {
			carry += factor*word + z[i+j]
			z[i+j] = carry % base
			carry /= base
		}
		z[i+len(y)] = carry
	}
	return z.trimmed()
}
