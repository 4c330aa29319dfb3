// Package ct is layer 1: words that are secret, and a log of what is seen of them (shared/doc/01-ct.md).
package ct

import "math/bits"

// Sec is a secret word: 32 bits that this package alone can look at.
type Sec struct {
	// A list of functions, though it has no items, keeps == from being asked of words: its answer would be told, and not be noted.
	_ [0]func()
	v uint32
}

// Of answers the word of that value.
func Of(v uint32) Sec {
	return Sec{v: v}
}

// Mask answers the word whose bits are all 1 (yes) or all 0 (no).
func Mask(yes bool) Sec {
	var bit uint32
	if yes {
		bit = 1
	}
	return spread(bit)
}

// spread makes a mask of a bit without asking which it is, so that no branch hangs on a secret.
func spread(bit uint32) Sec {
	return Of(-bit)
}

// Not answers the word with each bit turned.
func Not(a Sec) Sec {
	return Of(^a.v)
}

// And answers the bits that both words have.
func And(a, b Sec) Sec {
	return Of(a.v & b.v)
}

// Or answers the bits that one of the words has, or both.
func Or(a, b Sec) Sec {
	return Of(a.v | b.v)
}

// Xor answers the bits that one of the words has, and not the other.
func Xor(a, b Sec) Sec {
	return Of(a.v ^ b.v)
}

// Add answers what is left of the sum by 2^32.
func Add(a, b Sec) Sec {
	return Of(a.v + b.v)
}

// Sub answers what is left of the difference by 2^32.
func Sub(a, b Sec) Sec {
	return Of(a.v - b.v)
}

// Shl answers the word moved n bits to the left, zeros coming in: n below 1 leaves it as it is, and n above 31 leaves 0.
func Shl(a Sec, n int) Sec {
	return Of(a.v << max(n, 0))
}

// Shr answers the word moved n bits to the right, zeros coming in: n below 1 leaves it as it is, and n above 31 leaves 0.
func Shr(a Sec, n int) Sec {
	return Of(a.v >> max(n, 0))
}

// Rot answers the word turned to the right by what is left of n by 32.
func Rot(a Sec, n int) Sec {
	// The low five bits are what is left by 32, of numbers below 0 too.
	return Of(bits.RotateLeft32(a.v, -(n & 31)))
}

// Eq answers the mask of: are both words the same?
func Eq(a, b Sec) Sec {
	return Zero(Xor(a, b))
}

// Lt answers the mask of: is a below b, as numbers without a sign?
func Lt(a, b Sec) Sec {
	_, borrow := bits.Sub32(a.v, b.v, 0)
	return spread(borrow)
}

// Zero answers the mask of: is the word 0?
func Zero(a Sec) Sec {
	// Of a word and its negative at least one has the top bit, but of 0.
	return spread((a.v|-a.v)>>31 ^ 1)
}

// Sel answers a's bits where m's are 1, and b's where they are 0.
func Sel(m, a, b Sec) Sec {
	return Of(a.v&m.v | b.v&^m.v)
}

// Blank tells whether all the words are 0.
func Blank(l []Sec) bool {
	var seen uint32
	// All of them are gone over, so that the place of the first that isn't 0 doesn't show.
	for _, s := range l {
		seen |= s.v
	}
	return seen == 0
}
