package num

import (
	"copse/api"
	"copse/word"
)

// long is a signed number in two's complement, the lowest word first: a product needs two words, and the third one holds what 2^31 products add up to.
type long [3]uint64

func of(n int) long {
	above := signs(n)
	return long{uint64(n), above, above}
}

// signs is what stands in each word above a number in two's complement.
func signs(n int) uint64 {
	return uint64(n >> 63)
}

func product(a, b int) long {
	high, low := word.Mul(uint64(a), uint64(b))
	// As a word without a sign, a negative number is 2^64 too great.
	high -= signs(a) & uint64(b)
	high -= signs(b) & uint64(a)
	return long{low, high, signs(int(high))}
}

func (s long) plus(t long) long {
	carry := uint64(0)
	for i := range s {
		s[i], carry = word.Add(s[i], t[i], carry)
	}
	return s
}

func (s long) number() (int, api.Errno) {
	n := int(s[0])
	if of(n) != s {
		return 0, api.ErrOver
	}
	return n, api.OK
}
