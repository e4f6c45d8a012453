package arena_test

import (
	"slices"
	"testing"

	"heddle/api"
	"heddle/arena"
	"heddle/packed"
)

// maxWords by its own number, as the document tells it.
const maxWords = 67108864

func of(h, w, c int) api.Shape { return api.Shape{H: h, W: w, C: c} }

// win is a window: its size, its steps, its borders (Top Left Bottom Right).
func win(r, s, y, x, top, left, bottom, right int) api.Window {
	return api.Window{R: r, S: s, StepY: y, StepX: x, Top: top, Left: left, Bottom: bottom, Right: right}
}

// point is the window of one place.
func point() api.Window { return win(1, 1, 1, 1, 0, 0, 0, 0) }

// A layer without its lists.
func conv(k int, w api.Window) api.Pack {
	return api.Pack{Kind: api.LConv, Weight: api.Binary, K: k, Win: w}
}

func dense(k int) api.Pack { return api.Pack{Kind: api.LDense, Weight: api.Binary, K: k} }

func pool(w api.Window) api.Pack { return api.Pack{Kind: api.LPool, Win: w} }

// model is one of these layers, with all the lists that they need.
func model(in api.Shape, packs ...api.Pack) api.Model {
	m := api.Model{Name: "m", In: in, Packs: slices.Clone(packs)}
	for i, p := range m.Packs {
		if p.Kind != api.LPool {
			m.Packs[i] = filled(p, in, i == len(packs)-1)
		}
		in = outOf(p, in)
	}
	return m
}

// filled is a layer with rows of pluses, and what is done with their sums.
func filled(p api.Pack, in api.Shape, last bool) api.Pack {
	places, channels := 1, in.H*in.W*in.C
	length := channels
	if p.Kind == api.LConv {
		places, channels = p.Win.R*p.Win.S, in.C
		length = places * 64 * upTo64(channels)
	}
	for range p.K {
		words := pluses(places, channels)
		p.Rows = append(p.Rows, api.Row{Sign: api.Bits{Len: length, Words: words}, Some: api.Bits{Len: length, Words: slices.Clone(words)}})
	}
	if last {
		p.Biases = make([]int64, p.K)
		return p
	}
	p.Threshes = slices.Repeat([]api.Thresh{{Mode: api.ModeGE}}, p.K)
	return p
}

// upTo64 is how many words so many bits have.
func upTo64(bits int) int {
	words := bits / 64
	if bits%64 > 0 {
		words++
	}
	return words
}

// pluses are the words of places, each with so many bits set from its first word's lowest on.
func pluses(places, channels int) []uint64 {
	var one []uint64
	for left := channels; left > 0; left -= 64 {
		one = append(one, ^uint64(0)>>(64-min(left, 64)))
	}
	return slices.Repeat(one, places)
}

// outOf is the shape of a layer's output, stop by stop of its window.
func outOf(p api.Pack, in api.Shape) api.Shape {
	stops := func(side, window, step int) int {
		n := 0
		for at := 0; at+window <= side; at += step {
			n++
		}
		return n
	}
	if p.Kind == api.LDense {
		return of(1, 1, p.K)
	}
	out := of(stops(in.H+p.Win.Top+p.Win.Bottom, p.Win.R, p.Win.StepY), stops(in.W+p.Win.Left+p.Win.Right, p.Win.S, p.Win.StepX), in.C)
	if p.Kind == api.LConv {
		out.C = p.K
	}
	return out
}

// sizesOf are the words of a model's outputs.
func sizesOf(m api.Model) []int {
	in, sizes := m.In, []int(nil)
	for i, p := range m.Packs {
		in = outOf(p, in)
		if i == len(m.Packs)-1 {
			return append(sizes, 0)
		}
		sizes = append(sizes, in.H*in.W*upTo64(in.C))
	}
	return sizes
}

// chapter is the document's model: its outputs are 4 4 3, 2 2 3, 1 1 70, and logits.
func chapter() api.Model {
	return model(of(4, 4, 1), conv(3, point()), pool(win(2, 2, 2, 2, 0, 0, 0, 0)), dense(70), dense(2))
}

// lone has one layer.
func lone() api.Model { return model(of(1, 1, 3), dense(2)) }

// two has two layers; the first one's output has 12 words.
func two() api.Model { return model(of(3, 2, 5), conv(65, point()), dense(1)) }

// mixed has layers of all kinds; its outputs have 12, 4, 2, 9, 24, 8, 1 and 0 words.
func mixed() api.Model {
	return model(of(4, 3, 2), conv(2, win(2, 3, 2, 1, 1, 0, 2, 3)), pool(win(2, 2, 1, 2, 0, 0, 0, 0)), dense(127), conv(1, win(1, 1, 1, 1, 1, 1, 1, 1)),
		conv(129, win(2, 3, 1, 2, 1, 1, 1, 1)), conv(64, win(1, 1, 1, 1, 0, 0, 0, 0)), dense(7), dense(3))
}

// row is a model of dense layers with so many words each, and a last one.
func row(words ...int) api.Model {
	var packs []api.Pack
	for _, n := range words {
		packs = append(packs, dense(64*n))
	}
	return model(of(1, 1, 1), append(packs, dense(1))...)
}

// many is a model of 64 layers.
func many() api.Model {
	packs := []api.Pack{conv(3, point())}
	for i := range 62 {
		packs = append(packs, []api.Pack{dense(1 + 64*(i%7)), conv(1+i, win(1, 1, 1, 1, i%3, 0, i%2, 0)), pool(win(1, 1, 2, 1, 0, 0, 0, 0))}[i%3])
	}
	return model(of(2, 2, 1), append(packs, dense(2))...)
}

// great has the greatest outputs that may be: twice 2^24 words, 273 * 273, and logits.
func great() api.Model {
	return model(of(4096, 4096, 1), conv(1, point()), conv(1, point()), pool(win(15, 15, 15, 15, 0, 0, 0, 0)), dense(2))
}

// models are some that may be.
func models() map[string]api.Model {
	return map[string]api.Model{"chapter": chapter(), "lone": lone(), "two": two(), "mixed": mixed(), "many": many(), "great": great(),
		"rising": row(1, 2, 3, 4, 5), "falling": row(5, 4, 3, 2, 1), "a hill": row(1, 3, 1), "a valley": row(3, 1, 3), "alike": row(2, 2, 2, 2)}
}

// slots are written as At and Size, in turn.
func slots(numbers ...int) []api.Slot {
	var list []api.Slot
	for pair := range slices.Chunk(numbers, 2) {
		list = append(list, api.Slot{At: pair[0], Size: pair[1]})
	}
	return list
}

func plan(ways []int, list []api.Slot, words int) api.Plan {
	return api.Plan{Ways: ways, Slots: list, Words: words}
}

// own is a plan in memory of its own.
func own(p api.Plan) api.Plan {
	p.Ways, p.Slots = slices.Clone(p.Ways), slices.Clone(p.Slots)
	return p
}

func same(a, b api.Plan) bool {
	return a.Words == b.Words && slices.Equal(a.Ways, b.Ways) && slices.Equal(a.Slots, b.Slots)
}

// makes: Make answers this plan, or this error and no plan.
func makes(t *testing.T, what string, m api.Model, ways []int, want api.Plan, e api.Errno) {
	t.Helper()
	if p, got := arena.Make(m, ways...); got != e || !same(p, want) {
		t.Errorf("P21.1: %s: Make answers %d, %+v, not %d, %+v", what, got, p, e, want)
	}
}

// checks: Check answers this.
func checks(t *testing.T, what string, m api.Model, p api.Plan, e api.Errno) {
	t.Helper()
	if got := arena.Check(m, p); got != e {
		t.Errorf("P21.2: %s: Check answers %d, not %d: %+v", what, got, e, p)
	}
}

// made is Make's plan, which must be OK.
func made(t *testing.T, m api.Model, ways ...int) api.Plan {
	t.Helper()
	p, e := arena.Make(m, ways...)
	if e != api.OK {
		t.Fatalf("P21.1: Make(%v): %d", ways, e)
	}
	return p
}

// TestTheTestsModels: the models of these tests may be, and have the sizes that are told of them.
func TestTheTestsModels(t *testing.T) {
	for what, m := range models() {
		if at, e := packed.Check(m); e != api.OK {
			t.Errorf("the test's own model %s: %d, %d", what, at, e)
		}
	}
	for what, c := range map[string]struct {
		m     api.Model
		sizes []int
	}{
		"chapter": {chapter(), []int{16, 4, 2, 0}}, "lone": {lone(), []int{0}}, "two": {two(), []int{12, 0}}, "mixed": {mixed(), []int{12, 4, 2, 9, 24, 8, 1, 0}},
		"great": {great(), []int{1 << 24, 1 << 24, 273 * 273, 0}}, "row": {row(3, 1, 2), []int{3, 1, 2, 0}},
	} {
		if got := sizesOf(c.m); !slices.Equal(got, c.sizes) {
			t.Errorf("the test's own model %s: sizes %v, not %v", what, got, c.sizes)
		}
	}
	if n := len(many().Packs); n != 64 {
		t.Errorf("the test's own model: %d layers", n)
	}
}
