// Package fixnum is layer 1: whole numbers that tell when they do not fit, and splits of a total; see shared/doc/01-fixnum.md.
package fixnum

import (
	"math/bits"

	"broadside/api"
)

// lowest is -2^63 without its sign: the one magnitude that fits below 0 alone.
const lowest = uint64(1) << 63

// Add answers a and b together.
func Add(a, b int64) (int64, api.Errno) { return Sum(a, b) }

// Sub answers a less b.
func Sub(a, b int64) (int64, api.Errno) {
	d := a - b
	// A difference that was wrapped lies on the wrong side of a.
	if (d < a) != (b > 0) {
		return 0, api.ErrOverflow
	}
	return d, api.OK
}

// Mul answers a times b.
func Mul(a, b int64) (int64, api.Errno) {
	hi, lo := bits.Mul64(magnitude(a), magnitude(b))
	if hi != 0 {
		return 0, api.ErrOverflow
	}
	return signed((a < 0) != (b < 0), lo)
}

// Neg answers 0 less a.
func Neg(a int64) (int64, api.Errno) { return Sub(0, a) }

// Sum answers all of l together; it fails just if the whole does not fit, whatever a part of it is.
func Sum(l ...int64) (int64, api.Errno) {
	var hi, lo, carry uint64
	for _, n := range l {
		lo, carry = bits.Add64(lo, uint64(n), 0)
		hi, _ = bits.Add64(hi, upper(n), carry)
	}
	if hi != upper(int64(lo)) {
		return 0, api.ErrOverflow
	}
	return int64(lo), api.OK
}

// MulDiv answers a times b, divided by c, rounded towards minus infinity; the product itself need not fit.
func MulDiv(a, b, c int64) (int64, api.Errno) {
	if c == 0 {
		return 0, api.ErrZero
	}
	divisor := magnitude(c)
	hi, lo := bits.Mul64(magnitude(a), magnitude(b))
	if hi >= divisor {
		return 0, api.ErrOverflow
	}
	quotient, rest := bits.Div64(hi, lo, divisor)
	negative := (a < 0) != (b < 0) != (c < 0)
	if !negative || rest == 0 {
		return signed(negative, quotient)
	}
	// Ahead of the step down, as that may wrap the greatest quotient to 0.
	if quotient >= lowest {
		return 0, api.ErrOverflow
	}
	return signed(negative, quotient+1)
}

// Within tells whether a is from -most to most.
func Within(a, most int64) bool { return most >= 0 && -most <= a && a <= most }

// magnitude is n without its sign; that of -2^63 fits as it has one bit more.
func magnitude(n int64) uint64 {
	if n < 0 {
		return -uint64(n)
	}
	return uint64(n)
}

// signed is the number of a sign and a magnitude, if it fits.
func signed(negative bool, m uint64) (int64, api.Errno) {
	switch {
	case negative && m <= lowest:
		return int64(-m), api.OK
	case !negative && m < lowest:
		return int64(m), api.OK
	}
	return 0, api.ErrOverflow
}

// upper is the word that stands above n when n is held in two.
func upper(n int64) uint64 { return uint64(n >> 63) }
