package patch

import (
	"math/bits"
	"slices"

	"heddle/api"
)

// wordsFor is how many words a place of so many channels takes.
func wordsFor(channels int) int { return (channels + 63) / 64 }

// blank is a row of so many words that count whole, with no bit set; its two lists are memory of their own.
func blank(words int) api.Row {
	return api.Row{
		Sign: api.Bits{Len: 64 * words, Words: make([]uint64, words)},
		Some: api.Bits{Len: 64 * words, Words: make([]uint64, words)},
	}
}

// copied is the same row in memory of its own.
func copied(r api.Row) api.Row {
	r.Sign.Words, r.Some.Words = slices.Clone(r.Sign.Words), slices.Clone(r.Some.Words)
	return r
}

// set lays a weight of -1, 0 or 1 at bit i of a row, where no bit is set yet.
func set(r api.Row, i int, weight int8) {
	bit := uint64(1) << (i % 64)
	if weight != 0 {
		r.Some.Words[i/64] |= bit
	}
	if weight > 0 {
		r.Sign.Words[i/64] |= bit
	}
}

// weigh is the sum of a word's weights: no bit of sign is set where some is not.
func weigh(sign, some uint64) int64 {
	return int64(2*bits.OnesCount64(sign) - bits.OnesCount64(some))
}
