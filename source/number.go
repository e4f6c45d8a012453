package source

// size is a number as it lies in bytes: its type tells how many of them it has, and whether it may be below 0.
type size interface {
	uint8 | int8 | uint16 | uint32 | int32
}

// value is a number as a network holds it.
type value interface{ int | int64 }

// width is how many bytes a number has.
func width[S size]() int {
	n := 0
	for bit := uint64(1); S(bit) != 0; bit <<= 8 {
		n++
	}
	return n
}

// put writes numbers that fit their size, the lowest byte first.
func put[S size, V value](w *writer, numbers ...V) {
	for _, v := range numbers {
		rest := uint64(v)
		for range width[S]() {
			w.add(byte(rest))
			rest >>= 8
		}
	}
}

// get reads numbers into their places, one behind the other.
func get[S size, V value](r *reader, places ...*V) {
	for _, place := range places {
		var bits uint64
		for i, b := range r.take(width[S]()) {
			bits |= uint64(b) << (8 * i)
		}
		*place = V(S(bits))
	}
}
