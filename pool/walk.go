package pool

import "heddle/api"

// joining makes one word of two, bit by bit.
type joining func(a, b uint64) uint64

// or is the greater of each two elements.
func or(a, b uint64) uint64 { return a | b }

// and is the lesser of each two elements.
func and(a, b uint64) uint64 { return a & b }

// walk goes through the places of what the window gives and joins what it sees there. The rows that are seen are joined once for all places of a row, and only then the columns: R + S joinings do for R * S.
func walk(c api.Cube, w api.Window, out api.Shape, join joining) []uint64 {
	wide := (c.Shape.C + 63) / 64
	words := make([]uint64, out.H*out.W*wide)
	row := make([]uint64, c.Shape.W*wide)
	place := words
	for y := range out.H {
		first, end := seen(y*w.StepY, w.R, c.Shape.H)
		joinRuns(row, c.Words, first, end, join)
		for x := range out.W {
			first, end := seen(x*w.StepX, w.S, c.Shape.W)
			joinRuns(place[:wide], row, first, end, join)
			place = place[wide:]
		}
	}
	return words
}

// seen tells which rows (or columns) of a side of that length a window sees that begins at start: from the first up to the end, which is not among them.
func seen(start, window, length int) (first, end int) {
	return max(0, start), min(start+window, length)
}

// joinRuns joins runs of words into one: those with the numbers from first up to end, each as long as into. It begins with the first run and not with a word of its own, since the bits behind the channels are to stay 0.
func joinRuns(into, words []uint64, first, end int, join joining) {
	size := len(into)
	copy(into, words[first*size:])
	for run := first + 1; run < end; run++ {
		for i, word := range words[run*size : (run+1)*size] {
			into[i] = join(into[i], word)
		}
	}
}
