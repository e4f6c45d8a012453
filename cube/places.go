package cube

import (
	"iter"

	"heddle/api"
)

// wordsFor is how many words so many bits take.
func wordsFor(n int) int { return (n + 63) / 64 }

// wordsAt is the words of the place of that number; they end there, so that nobody appends into the next place's.
func wordsAt(c api.Cube, place int) []uint64 {
	wide := wordsFor(c.Shape.C)
	from, to := place*wide, (place+1)*wide
	return c.Words[from:to:to]
}

// places goes through the places in their order, each with its number and its words. The cube has just as many words as its shape asks for.
func places(c api.Cube) iter.Seq2[int, []uint64] {
	return func(yield func(int, []uint64) bool) {
		for i := range c.Shape.H * c.Shape.W {
			if !yield(i, wordsAt(c, i)) {
				return
			}
		}
	}
}
