package dot

import (
	"math/bits"

	"heddle/api"
)

// tally is the sum of a times b over the places of a word that count: 1 where they agree, -1 where not.
func tally(count, a, b uint64) int64 {
	agree := count &^ (a ^ b)
	return int64(2*bits.OnesCount64(agree) - bits.OnesCount64(count))
}

// blank is a row of n bits, none set, in memory of its own; n is 0 to MaxElems.
func blank(n int) api.Bits {
	return api.Bits{Len: n, Words: make([]uint64, (n+63)/64)}
}

func set(b api.Bits, i int) { b.Words[i/64] |= 1 << (i % 64) }

func bit(b api.Bits, i int) int8 { return int8(b.Words[i/64] >> (i % 64) & 1) }
