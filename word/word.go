// Package word reckons with words of 64 bits, and tells what goes beyond one word.
package word

// Size is the absolute value of n, which may be one more than the greatest number with a sign.
func Size(n int) uint64 {
	if n < 0 {
		return -uint64(n)
	}
	return uint64(n)
}

// Add is a + b + carry, and the carry (0 or 1) into the word above.
func Add(a, b, carry uint64) (uint64, uint64) {
	part := a + b
	sum := part + carry
	if part < a || sum < part {
		return sum, 1
	}
	return sum, 0
}

// Sub is a - b - borrow, and the borrow (0 or 1) from the word above.
func Sub(a, b, borrow uint64) (uint64, uint64) {
	part := a - b
	rest := part - borrow
	if part > a || rest > part {
		return rest, 1
	}
	return rest, 0
}

// Mul is the product of a and b: its high word, and its low one.
func Mul(a, b uint64) (uint64, uint64) {
	const half = 1<<32 - 1
	aHigh, aLow := a>>32, a&half
	bHigh, bLow := b>>32, b&half
	// No sum below goes beyond a word: (2^32 - 1)^2 + 2 (2^32 - 1) is 2^64 - 1.
	low := aLow * bLow
	middle := aHigh*bLow + low>>32
	other := aLow*bHigh + middle&half
	return aHigh*bHigh + middle>>32 + other>>32, other<<32 | low&half
}

// Div divides high times 2^64, and low, by d, which must be above high: the quotient, which is one word then, and the remainder.
func Div(high, low, d uint64) (uint64, uint64) {
	if high == 0 {
		return low / d, low % d
	}
	quotient, rest := uint64(0), high
	for bit := 63; bit >= 0; bit-- {
		// The doubled rest may be one bit longer than a word; what is taken from it makes it a word again.
		beyond := rest >> 63
		rest = rest<<1 | low>>bit&1
		if beyond == 1 || rest >= d {
			rest -= d
			quotient |= 1 << bit
		}
	}
	return quotient, rest
}
