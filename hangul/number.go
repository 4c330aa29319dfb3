package hangul

import (
	"math/bits"

	"sabretache/ct"
)

// quotientBits is how many bits a quotient may have: the greatest is the number of the last vowel.
const quotientBits = 5

// number answers at which place of n words, the first one counted as 0, the word stands, and the mask of: is it one of them?
func number(x ct.Sec, first, n uint32) (ct.Sec, ct.Sec) {
	// Of a word below the first one the difference is a great number, so that one comparison asks both ends.
	at := ct.Sub(x, ct.Of(first))
	return at, ct.Lt(at, ct.Of(n))
}

// divide answers how often the divisor goes into the word, and what is left, if that is less than 2^quotientBits times. Every bit is tried, since a machine's own division may take as long as the word lets it.
func divide(x ct.Sec, by uint32) (quotient, rest ct.Sec) {
	quotient, rest = ct.Of(0), x
	for i := quotientBits - 1; i >= 0; i-- {
		part := ct.Of(by << i)
		goes := ct.Not(ct.Lt(rest, part))
		quotient = ct.Or(quotient, ct.And(goes, ct.Of(1<<i)))
		rest = ct.Sub(rest, ct.And(goes, part))
	}
	return quotient, rest
}

// times answers the product with a factor that all may know, bit by bit of the factor: secret words have sums alone.
func times(x ct.Sec, by uint32) ct.Sec {
	product := ct.Of(0)
	for i := range bits.Len32(by) {
		if by>>i&1 == 1 {
			product = ct.Add(product, ct.Shl(x, i))
		}
	}
	return product
}
