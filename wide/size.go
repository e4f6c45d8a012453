package wide

import (
	"math/bits"

	"heddle/api"
)

// size is a number without a sign: hi * 2^64 + lo. Products, quotients and texts go by sizes, since their signs follow rules of their own.
type size struct {
	hi, lo uint64
}

// amount is n without its sign; the wrap-round makes it right for -2^63 too.
func amount(n int64) uint64 {
	if n < 0 {
		return -uint64(n)
	}
	return uint64(n)
}

// sizeOf is a without its sign: at most 2^127.
func sizeOf(a api.Wide) size {
	s := size{uint64(a.Hi), a.Lo}
	if a.Hi < 0 {
		return s.flipped()
	}
	return s
}

// signed gives a size its sign; ErrRange, if there is no such number.
func signed(s size, minus bool) (api.Wide, api.Errno) {
	if minus {
		s = s.flipped()
	}
	a := api.Wide{Hi: int64(s.hi), Lo: s.lo}
	// Nought has no sign to lose; a sign that came out wrong tells of a size too great.
	if s != (size{}) && (a.Hi < 0) != minus {
		return api.Wide{}, api.ErrRange
	}
	return a, api.OK
}

// flipped is 2^128 - s, wrapped round: the two words of the opposite number.
func (s size) flipped() size {
	lo, carry := bits.Add64(^s.lo, 1, 0)
	hi, _ := bits.Add64(^s.hi, 0, carry)
	return size{hi, lo}
}

// plus is s + n, and whether that fits two words.
func (s size) plus(n uint64) (size, bool) {
	lo, carry := bits.Add64(s.lo, n, 0)
	hi, over := bits.Add64(s.hi, 0, carry)
	return size{hi, lo}, over == 0
}

// times is s * n, and whether that fits two words.
func (s size) times(n uint64) (size, bool) {
	carry, lo := bits.Mul64(s.lo, n)
	over, top := bits.Mul64(s.hi, n)
	hi, more := bits.Add64(top, carry, 0)
	return size{hi, lo}, over == 0 && more == 0
}

// parted is s / n, rounded down, and the rest; n is not 0.
func (s size) parted(n uint64) (size, uint64) {
	// Each upper word is below n, as Div64 demands.
	hi, rest := bits.Div64(0, s.hi, n)
	lo, rest := bits.Div64(rest, s.lo, n)
	return size{hi, lo}, rest
}
