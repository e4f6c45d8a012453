package cube

// small is the whole types that a tensor's values may have: 1 and -1 stand in each.
type small interface {
	~int8 | ~int16 | ~int32
}

// pack sets a bit for each value above 0; no bit of the words is set yet.
func pack[T small](words []uint64, vals []T) {
	for i, v := range vals {
		if v > 0 {
			words[i/64] |= 1 << (i % 64)
		}
	}
}

// unpack writes 1 for each bit that is set and -1 for each other one, as many as there are values.
func unpack[T small](vals []T, words []uint64) {
	for i := range vals {
		bit := words[i/64] >> (i % 64) & 1
		vals[i] = 2*T(bit) - 1
	}
}

// lay sets the bits of a place's words from bit at on, where no bit is set yet. The bits behind its channels are 0, so what would reach behind the last word is 0 and is left out.
func lay(into []uint64, at int, words []uint64) {
	first, shift := at/64, at%64
	for i, w := range words {
		into[first+i] |= w << shift
		// At a word's border the shift is by 64, which leaves nothing.
		if high := w >> (64 - shift); high != 0 {
			into[first+i+1] |= high
		}
	}
}
