package packed

// pair is what two bits of a file mean.
type pair struct {
	weight int8
	known  bool
}

// pairs is what each two bits mean: 2 is no weight.
var pairs = [4]pair{{0, true}, {-1, true}, {0, false}, {1, true}}

// codes is the two bits of the weights -1, 0 and 1.
var codes = [3]byte{1, 0, 3}

// pairReader takes weights from the front of bytes, two bits at a time, the lowest first.
type pairReader struct {
	bytes []byte
	taken int
	bad   bool // two bits that are no weight were taken
}

// next is the next weight; there must be two bits more.
func (r *pairReader) next() int8 {
	p := pairs[r.bytes[r.taken/4]>>(2*(r.taken%4))&3]
	r.taken++
	if !p.known {
		r.bad = true
	}
	return p.weight
}

// end takes what is left over, and tells whether all that was taken ahead are weights and all bits of the rest are 0.
func (r *pairReader) end() bool {
	for r.taken < 4*len(r.bytes) {
		if r.next() != 0 {
			r.bad = true
		}
	}
	return !r.bad
}

// pairWriter lays weights behind one another, two bits each, into bytes that are 0 at first.
type pairWriter struct {
	bytes []byte
	laid  int
}

func (w *pairWriter) add(weight int8) {
	w.bytes[w.laid/4] |= codes[weight+1] << (2 * (w.laid % 4))
	w.laid++
}

// pairBytes is how many bytes so many weights take.
func pairBytes(weights int) int { return (weights + 3) / 4 }
