package wide

// quotient returns q and r with x = q y + r, r from 0 to less than the absolute value of y, which is not 0.
func quotient(x, y number) (q, r number) {
	n, rest := divideWords(x.words, y.words)
	if x.negative && len(rest) > 0 {
		n = addWords(n, words{1})
		rest = subtractWords(y.words, rest)
	}
	return signed(x.negative != y.negative, n), number{words: rest}
}

// divideWords returns the quotient of x by y, which is not 0, and what is left.
func divideWords(x, y words) (q, rest words) {
	if compareWords(x, y) < 0 {
		return nil, x
	}
	if len(y) == 1 {
		q, left := divideByWord(x, y[0])
		return q, words{left}.trimmed()
	}
	return divideLong(x, y)
}

func divideByWord(x words, y uint64) (q words, rest uint64) {
	q = make(words, len(x))
	for i, word := range x.down() {
		rest = rest*base + word
		q[i] = rest / y
		rest %= y
	}
	return q.trimmed(), rest
}

// divideLong divides as on paper, for y of at least two words and x not less than y. Both are multiplied by a factor first, so that y's highest word is at least half of the base: then a word of the quotient that is guessed from the highest words is hardly ever wrong.
func divideLong(x, y words) (q, rest words) {
	n := len(y)
	factor := words{base / (y[n-1] + 1)}
	divisor := multiplyWords(y, factor)
	left := make(words, len(x)+1)
	copy(left, multiplyWords(x, factor))
	q = make(words, len(x)-n+1)
	for at := range q.down() {
		window := left[at : at+n+1 : at+n+1]
		guess := guessWord(window, divisor)
		if subtractTimes(window, divisor, guess) {
			guess--
			addBack(window, divisor)
		}
		q[at] = guess
	}
	rest, _ = divideByWord(left.trimmed(), factor[0])
	return q.trimmed(), rest
}

// guessWord returns the quotient of window by divisor, or one more. It guesses with the highest word of divisor, and makes the guess smaller until the second one does not speak against it.
func guessWord(window, divisor words) uint64 {
	n := len(divisor)
	top := window[n]*base + window[n-1]
	guess, left := top/divisor[n-1], top%divisor[n-1]
correct:
	for {
		switch {
		case left >= base:
			break correct
		case guess < base && guess*divisor[n-2] <= left*base+window[n-2]:
			break correct
		}
		guess--
		left += divisor[n-1]
	}
	return guess
}

// subtractTimes takes times y from window, which has one word more than y, and returns whether that was too much. Then window is what it would be with one more word, of value 1, at its top.
func subtractTimes(window, y words, times uint64) bool {
	carry, borrow := uint64(0), uint64(0)
	for i, word := range window {
		if i < len(y) {
			carry += times * y[i]
		}
		less := carry%base + borrow
		carry /= base
		borrow = 0
		if word < less {
			word += base
			borrow = 1
		}
		window[i] = word - less
	}
	return borrow == 1
}

// addBack adds y to window, and drops what it carries over the top.
func addBack(window, y words) {
	carry := uint64(0)
	for i, word := range window {
		carry += word
		if i < len(y) {
			carry += y[i]
		}
		window[i] = carry % base
		carry /= base
	}
}
