package ratio

import (
	"cmp"
	"slices"

	"spokeshave/api"
	"spokeshave/wide"
)

// exact is a rational number of any length, in lowest terms, the denominator greater than 0.
type exact struct{ num, den long }

// written makes the string, if it is a ratio.
func (s exact) written() (string, api.Errno) {
	x := fraction{s.num.text(), s.den.text()}
	if !wide.Is(x.num) || !wide.Is(x.den) {
		return "", api.ErrLarge
	}
	return x.text(), api.OK
}

// sum adds all terms. Once the sum is certain to have too long a denominator, it returns what it has added by then, whose denominator is too long as well: the exact sum of a thousand long terms would take minutes. It looks for that whenever the denominator has become twice as long.
func sum(terms ...fraction) exact {
	s, limit := exact{den: long{"1"}}, wideParts+2
	terms = nearDenominators(terms)
	for i, x := range terms {
		s = s.plus(x)
		if len(s.den) < limit {
			continue
		}
		if staysLong(s.den, terms[i+1:]) {
			return s
		}
		limit = 2 * len(s.den)
	}
	return s
}

// nearDenominators puts terms with equal denominators together: where these are taken off each other the sum stays short.
func nearDenominators(terms []fraction) []fraction {
	return slices.SortedStableFunc(slices.Values(terms), func(x, y fraction) int {
		return cmp.Or(cmp.Compare(len(x.den), len(y.den)), cmp.Compare(x.den, y.den))
	})
}

// plus reduces by the common divisors before they are multiplied: what both denominators share is the only thing that a common divisor of the sum's numerator and denominator can come from.
func (s exact) plus(x fraction) exact {
	shared := s.den.divisor(x.den)
	den := s.den.divided(shared)
	own, _ := div(x.den, shared)
	num := s.num.times(lengthened(own)).plus(den.times(lengthened(x.num)))
	common := num.divisor(shared)
	rest, _ := div(x.den, common)
	return exact{num.divided(common), den.times(lengthened(rest))}
}

func (s exact) half() exact {
	if s.num.isOdd() {
		return exact{s.num, s.den.times(long{"2"})}
	}
	return exact{s.num.divided("2"), s.den}
}

// staysLong returns whether den, which is too long, is so even without what it shares with each of the denominators of the rest: a term takes no more than that away.
func staysLong(den long, rest []fraction) bool {
	for _, x := range rest {
		den = den.divided(den.divisor(x.den))
		if len(den) <= wideParts {
			return false
		}
	}
	return true
}
