// Package quad counts with numbers of 128 bits: an api.Quad is Hi times 2^64 and Lo.
package quad

import (
	"math/bits"

	"glebe/api"
)

const ones = ^uint64(0)

// Add answers false where the sum would be 2^128 or more, so that it never wraps unseen.
func Add(a, b api.Quad) (api.Quad, bool) {
	lo, carry := bits.Add64(a.Lo, b.Lo, 0)
	hi, over := bits.Add64(a.Hi, b.Hi, carry)
	if over != 0 {
		return api.Quad{}, false
	}
	return api.Quad{Hi: hi, Lo: lo}, true
}

// Sub answers false where the difference would be below 0, so that it never wraps unseen.
func Sub(a, b api.Quad) (api.Quad, bool) {
	lo, borrow := bits.Sub64(a.Lo, b.Lo, 0)
	hi, under := bits.Sub64(a.Hi, b.Hi, borrow)
	if under != 0 {
		return api.Quad{}, false
	}
	return api.Quad{Hi: hi, Lo: lo}, true
}

// Less tells whether a is the smaller number of the two.
func Less(a, b api.Quad) bool {
	if a.Hi != b.Hi {
		return a.Hi < b.Hi
	}
	return a.Lo < b.Lo
}

// And is taken bit by bit.
func And(a, b api.Quad) api.Quad {
	return api.Quad{Hi: a.Hi & b.Hi, Lo: a.Lo & b.Lo}
}

// Or is taken bit by bit.
func Or(a, b api.Quad) api.Quad {
	return api.Quad{Hi: a.Hi | b.Hi, Lo: a.Lo | b.Lo}
}

// Not is taken bit by bit.
func Not(a api.Quad) api.Quad {
	return api.Quad{Hi: ^a.Hi, Lo: ^a.Lo}
}

// Mask sets the n highest bits; n is held to 0 to 128.
func Mask(n int) api.Quad {
	n = min(max(n, 0), 128)
	if n <= 64 {
		return api.Quad{Hi: highest(uint(n))}
	}
	return api.Quad{Hi: ones, Lo: highest(uint(n - 64))}
}

// highest shifts by an unsigned count, since a negative one would panic; shifting by 64 leaves no bit.
func highest(n uint) uint64 {
	return ^(ones >> n)
}

// Bit is 2 to the n, and 0 where that is no number of 128 bits.
func Bit(n int) api.Quad {
	switch {
	case n < 0 || n > 127:
		return api.Quad{}
	case n < 64:
		return api.Quad{Lo: 1 << uint(n)}
	default:
		return api.Quad{Hi: 1 << uint(n-64)}
	}
}

// Low counts the bits that are not set, from the lowest on; of 0 these are all 128.
func Low(a api.Quad) int {
	if a.Lo != 0 {
		return bits.TrailingZeros64(a.Lo)
	}
	return 64 + bits.TrailingZeros64(a.Hi)
}
