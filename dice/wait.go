package dice

import (
	"math/bits"

	"horizon/api"
)

// one is 1 as a logarithm is told here: with 16 binary digits behind the point.
const one = 1 << 16

// natural is the natural logarithm of 2 by that measure: it turns logarithms of the base 2 into natural ones.
const natural = 45426

// Wait throws a time of waiting, of a mean.
func Wait(s, mean uint64) (uint64, uint64, api.Errno) {
	next, x := Next(s)
	depth := 64*one - logarithm(max(x, 1)) // how far x is below 2^64, as a logarithm
	high, low := bits.Mul64(mean, depth*natural)
	if high>>32 != 0 {
		return 0, s, api.ErrTime
	}
	return high<<32 | low>>32, next, api.OK
}

// logarithm is that of x to the base 2, times one; x is not 0.
func logarithm(x uint64) uint64 {
	whole := uint64(bits.Len64(x) - 1)
	m := x << (63 - whole)
	var digits uint64
	for range 16 {
		high, low := bits.Mul64(m, m)
		digit := high >> 63
		digits = digits<<1 | digit
		m = high
		if digit == 0 {
			m = high<<1 | low>>63
		}
	}
	return whole*one + digits
}
