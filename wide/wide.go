// Package wide: numbers of 128 bits: see doc/01-wide.md.
package wide

import (
	"math/bits"

	"heddle/api"
)

// Of is a number of 64 bits.
func Of(n int64) api.Wide { return api.Wide{Hi: n >> 63, Lo: uint64(n)} }

// Mul is a product.
func Mul(a, b int64) api.Wide {
	hi, lo := bits.Mul64(amount(a), amount(b))
	// The amount is at most 2^126, so no sign makes it leave the range.
	product, _ := signed(size{hi, lo}, (a < 0) != (b < 0))
	return product
}

// Add is a sum.
func Add(a, b api.Wide) (api.Wide, api.Errno) {
	lo, carry := bits.Add64(a.Lo, b.Lo, 0)
	top, _ := bits.Add64(uint64(a.Hi), uint64(b.Hi), carry)
	hi := int64(top)
	// Only numbers of one sign can leave the range together, and their sum then has the other sign.
	if (a.Hi < 0) == (b.Hi < 0) && (hi < 0) != (a.Hi < 0) {
		return api.Wide{}, api.ErrRange
	}
	return api.Wide{Hi: hi, Lo: lo}, api.OK
}

// Neg is the opposite.
func Neg(a api.Wide) (api.Wide, api.Errno) { return signed(sizeOf(a), a.Hi >= 0) }

// Scale is a product with a number of 64 bits.
func Scale(a api.Wide, b int64) (api.Wide, api.Errno) {
	product, fits := sizeOf(a).times(amount(b))
	if !fits {
		return api.Wide{}, api.ErrRange
	}
	return signed(product, (a.Hi < 0) != (b < 0))
}

// Cmp orders two numbers.
func Cmp(a, b api.Wide) int {
	if a == b {
		return 0
	}
	if a.Hi < b.Hi || a.Hi == b.Hi && a.Lo < b.Lo {
		return -1
	}
	return 1
}

// Floor is a quotient, rounded down.
func Floor(a api.Wide, b int64) (api.Wide, api.Errno) {
	// Down is away from nought where the quotient is negative.
	return quotient(a, b, (a.Hi < 0) != (b < 0))
}

// Ceil is a quotient, rounded up.
func Ceil(a api.Wide, b int64) (api.Wide, api.Errno) {
	// Up is away from nought where the quotient is positive.
	return quotient(a, b, (a.Hi < 0) == (b < 0))
}

// quotient is a / b, rounded away from nought or towards it.
func quotient(a api.Wide, b int64, away bool) (api.Wide, api.Errno) {
	if b == 0 {
		return api.Wide{}, api.ErrZero
	}
	q, rest := sizeOf(a).parted(amount(b))
	if away && rest != 0 {
		// Where a rest is left, the divisor is at least 2, and so one more fits.
		q, _ = q.plus(1)
	}
	return signed(q, (a.Hi < 0) != (b < 0))
}

// Fit tells a number that fits 64 bits.
func Fit(a api.Wide) (int64, api.Errno) {
	n := int64(a.Lo)
	if Of(n) != a {
		return 0, api.ErrRange
	}
	return n, api.OK
}
