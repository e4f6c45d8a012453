package arena

import (
	"iter"

	"heddle/api"
	"heddle/shape"
)

// maxWords is how many words an arena has at most.
const maxWords = 1 << 26

// outputs is how many words each layer's output has, of a model that may be; the last one's are logits, which lie nowhere.
func outputs(m api.Model) []int {
	sizes := make([]int, len(m.Packs))
	in := m.In
	for i, p := range m.Packs[:len(m.Packs)-1] {
		in = output(p, in)
		// What a layer of such a model gives is a shape that may be.
		sizes[i], _ = shape.Words(in)
	}
	return sizes
}

// output is the shape of what a layer gives.
func output(p api.Pack, in api.Shape) api.Shape {
	out := api.Shape{H: 1, W: 1, C: p.K}
	switch p.Kind {
	case api.LConv:
		out, _ = shape.Slide(in, p.Win, p.K)
	case api.LPool:
		out, _ = shape.Slide(in, p.Win, in.C)
	}
	return out
}

// neighbours are the elements of a list, each with the one behind it.
func neighbours[T any](list []T) iter.Seq2[T, T] {
	return func(yield func(T, T) bool) {
		for i := 1; i < len(list); i++ {
			if !yield(list[i-1], list[i]) {
				return
			}
		}
	}
}

// least is how many words there must be: what a layer reads and what it writes are there at a time.
func least(sizes []int) int {
	words := 0
	for read, written := range neighbours(sizes) {
		words = max(words, read+written)
	}
	return words
}

// laid puts the outputs at the arena's two ends in turn, so that neighbours are apart.
func laid(sizes []int, words int) []api.Slot {
	slots := make([]api.Slot, len(sizes))
	for i, size := range sizes[:len(sizes)-1] {
		slots[i].Size = size
		if i%2 == 1 {
			slots[i].At = words - size
		}
	}
	return slots
}

// mayLie tells whether outputs of these sizes may lie so in an arena of so many words.
func mayLie(sizes []int, slots []api.Slot, words int) bool {
	if words < 0 || words > maxWords || len(slots) != len(sizes) || slots[len(slots)-1] != (api.Slot{}) {
		return false
	}
	for i, s := range slots {
		// Not At + Size: At can be any number, and the sum could wrap.
		if s.Size != sizes[i] || s.At < 0 || s.At > words-s.Size {
			return false
		}
	}
	for read, written := range neighbours(slots) {
		if common(read, written) > 0 {
			return false
		}
	}
	return true
}

// common is how many words two slots of an arena have in common.
func common(a, b api.Slot) int {
	from, to := max(a.At, b.At), min(a.At+a.Size, b.At+b.Size)
	return max(to-from, 0)
}
