package wide

import (
	"cmp"
	"strconv"
	"strings"

	"spokeshave/api"
)

// number is an integer of any length. 0 is not negative.
type number struct {
	negative bool
	words    words
}

// size is what can be told of a number without a look at its words.
type size struct{ sign, words int }

// read makes the number of a string that is one.
func read(a string) number {
	digits := strings.TrimPrefix(a, "-")
	w := make(words, (len(digits)+wordDigits-1)/wordDigits)
	for i, c := range digits {
		at := (len(digits) - 1 - i) / wordDigits
		w[at] = w[at]*10 + uint64(c-'0')
	}
	return signed(len(digits) < len(a), w.trimmed())
}

// written makes the string, if it is a number.
func (x number) written() (string, api.Errno) {
	if x.isZero() {
		return "0", api.OK
	}
	if x.digits() > maxDigits {
		return "", api.ErrLarge
	}
	text := make([]byte, 0, len(x.words)*wordDigits+1)
	if x.negative {
		text = append(text, '-')
	}
	for i, word := range x.words.down() {
		digits := strconv.FormatUint(word, 10)
		if i < len(x.words)-1 {
			text = append(text, wordZeros[len(digits):]...)
		}
		text = append(text, digits...)
	}
	return string(text), api.OK
}

// digits returns the number of digits; 0 has none here.
func (x number) digits() int {
	n := 0
	if !x.isZero() {
		n = (len(x.words) - 1) * wordDigits
		for top := x.words[len(x.words)-1]; top > 0; top /= 10 {
			n++
		}
	}
	return n
}

func (x number) isZero() bool {
	return len(x.words) == 0
}

func (x number) size() size {
	switch {
	case x.isZero():
		return size{}
	case x.negative:
		return size{-1, len(x.words)}
	}
	return size{1, len(x.words)}
}

// signed makes the number of these words, and lets no 0 be negative.
func signed(negative bool, w words) number {
	return number{negative && len(w) > 0, w}
}

func one() number {
	return number{words: words{1}}
}

func opposite(x number) number {
	return signed(!x.negative, x.words)
}

func compare(x, y number) int {
	s, t := x.size(), y.size()
	if s != t {
		return cmp.Compare(s.sign*s.words, t.sign*t.words)
	}
	return s.sign * compareWords(x.words, y.words)
}

func sum(l ...number) number {
	total := number{}
	for _, x := range l {
		total = plus(total, x)
	}
	return total
}

func plus(x, y number) number {
	if x.negative == y.negative {
		return signed(x.negative, addWords(x.words, y.words))
	}
	if compareWords(x.words, y.words) < 0 {
		x, y = y, x
	}
	return signed(x.negative, subtractWords(x.words, y.words))
}

func product(x, y number) number {
	return signed(x.negative != y.negative, multiplyWords(x.words, y.words))
}

// power returns x to the power of k, or, if that is too long to be written, a lower power that is too long as well.
func power(x number, k int) number {
	result := one()
	if k > 0 {
		result = power(x, k/2)
		if result.digits() > maxDigits {
			return result
		}
		result = product(result, result)
	}
	if k%2 == 1 {
		result = product(result, x)
	}
	return result
}

// determinant expands along the rows. The minor of the lower rows is the same whenever the same columns are left for them, and is kept.
func determinant(rows [][]number) number {
	known := map[uint]number{}
	var minor func(row int, used uint) number
	minor = func(row int, used uint) number {
		if row == len(rows) {
			return one()
		}
		if d, ok := known[used]; ok {
			return d
		}
		total, turned := number{}, false
		for column, x := range rows[row] {
			taken := uint(1) << column
			if used&taken != 0 {
				continue
			}
			term := product(x, minor(row+1, used|taken))
			if turned {
				term = opposite(term)
			}
			total = sum(total, term)
			turned = !turned
		}
		known[used] = total
		return total
	}
	return minor(0, 0)
}
