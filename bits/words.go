package bits

import "heddle/api"

// wordsFor is how many words a row of n bits has; n is 0 to MaxElems.
func wordsFor(n int) int { return (n + 63) / 64 }

// blank is a row of n bits, none set, in memory of its own.
func blank(n int) api.Bits {
	return api.Bits{Len: n, Words: make([]uint64, wordsFor(n))}
}

// checkPair is the fault of two rows that are to be worked on bit by bit.
func checkPair(a, b api.Bits) api.Errno {
	if e := Check(a); e != api.OK {
		return e
	}
	if e := Check(b); e != api.OK {
		return e
	}
	if a.Len != b.Len {
		return api.ErrBits
	}
	return api.OK
}

// maskEnd clears what lies behind the row's last bit.
func maskEnd(row api.Bits) {
	if row.Len > 0 {
		row.Words[len(row.Words)-1] &= Tail(row.Len)
	}
}

// wordFrom is the 64 bits from bit at on, put together from two words; behind the last word all bits are 0.
func wordFrom(words []uint64, at int) uint64 {
	first, shift := at/64, at%64
	word := words[first] >> shift
	if first+1 < len(words) {
		// At a word's border the shift is by 64, which leaves nothing of the second word.
		word |= words[first+1] << (64 - shift)
	}
	return word
}

// lay sets the bits of a row's words from bit at on. What lies there is still 0, and the bits behind the row's end are 0 too, so what would reach behind the last word is 0 and is left out.
func lay(into []uint64, at int, words []uint64) {
	first, shift := at/64, at%64
	for i, w := range words {
		into[first+i] |= w << shift
		if high := w >> (64 - shift); high != 0 {
			into[first+i+1] |= high
		}
	}
}
