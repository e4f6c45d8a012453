package engine

import (
	"slices"
	"testing"

	"heddle/api"
)

// filled is a list of so many words, all the same.
func filled(size int, word uint64) []uint64 { return slices.Repeat([]uint64{word}, size) }

// TestSpans: an arena has the words from the first slot's beginning up to the last one's end, whatever the plan has.
func TestSpans(t *testing.T) {
	for _, c := range []struct {
		words       int
		slots       []api.Slot
		first, size int
	}{
		{0, []api.Slot{{}}, 0, 0}, {100, []api.Slot{{}}, 100, 0}, {16, []api.Slot{{At: 0, Size: 16}, {}}, 0, 16}, {1 << 26, []api.Slot{{At: 7, Size: 2}, {}}, 7, 2},
		{20, []api.Slot{{At: 0, Size: 16}, {At: 16, Size: 4}, {}}, 0, 20}, {1 << 26, []api.Slot{{At: 90, Size: 3}, {At: 50, Size: 4}, {At: 60, Size: 1}, {}}, 50, 43},
		{1 << 26, []api.Slot{{At: 1 << 20, Size: 3}, {At: 1<<20 + 3, Size: 1}, {At: 1 << 20, Size: 2}, {}}, 1 << 20, 4},
	} {
		s := storeFor(api.Plan{Slots: c.slots, Words: c.words})
		if s.first != c.first || s.size != c.size || len(s.take()) != c.size {
			t.Errorf("%+v of %d words: %d words from %d on", c.slots, c.words, s.size, s.first)
		}
	}
}

// TestCut: each slot has its own words of an arena, and no room behind them; the last one has none.
func TestCut(t *testing.T) {
	slots := []api.Slot{{At: 90, Size: 3}, {At: 50, Size: 4}, {At: 60, Size: 1}, {}}
	s := storeFor(api.Plan{Slots: slots, Words: 1000})
	words := s.take()
	for i, slot := range slots {
		part := s.cut(words, slot)
		if len(part) != slot.Size || cap(part) != slot.Size {
			t.Errorf("the slot %+v has %d words, and room for %d", slot, len(part), cap(part))
		}
		copy(part, filled(slot.Size, uint64(i+1)))
	}
	for i, word := range words {
		want := uint64(0)
		for k, slot := range slots {
			if i+50 >= slot.At && i+50 < slot.At+slot.Size {
				want = uint64(k + 1)
			}
		}
		if word != want {
			t.Errorf("the word %d is of the slot %d, not %d", i+50, word, want)
		}
	}
}

// TestKept: an arena that is given back is taken again; no two that are out are one.
func TestKept(t *testing.T) {
	s := storeFor(api.Plan{Slots: []api.Slot{{Size: 5}, {}}, Words: 5})
	a, b := s.take(), s.take()
	if &a[0] == &b[0] {
		t.Error("P22.6: two runs have one arena")
	}
	s.give(a)
	if c := s.take(); &c[0] != &a[0] {
		t.Error("what was given back is not taken again")
	}
	s.give(b)
	s.give(a)
	c, d, e := s.take(), s.take(), s.take()
	if &c[0] == &d[0] || &c[0] == &e[0] || &d[0] == &e[0] || len(s.kept) != 0 {
		t.Error("P22.6: two runs have one arena")
	}
}

// TestHowManyAreKept: however many arenas are given back, those that are kept have at most keptWords words together.
func TestHowManyAreKept(t *testing.T) {
	for _, size := range []int{keptWords/4 + 1, keptWords / 2, keptWords/2 + 1, keptWords, keptWords + 1, 1 << 22} {
		s := storeFor(api.Plan{Slots: []api.Slot{{Size: size}, {}}, Words: size})
		arena := s.take()
		for range 6 {
			s.give(arena)
		}
		if len(s.kept) != keptWords/size {
			t.Errorf("of arenas of %d words %d are kept", size, len(s.kept))
		}
	}
}

// TestDirtyArenas: what lies in an arena at the beginning of a run changes no answer.
func TestDirtyArenas(t *testing.T) {
	words := func(n int, w ...uint64) api.Bits { return api.Bits{Len: n, Words: w} }
	m := api.Model{Name: "m", In: api.Shape{H: 1, W: 2, C: 1}, Packs: []api.Pack{
		{Kind: api.LConv, Weight: api.Binary, K: 2, Win: api.Window{R: 1, S: 1, StepY: 1, StepX: 1}, Rows: []api.Row{{Sign: words(64, 1), Some: words(64, 1)}, {Sign: words(64, 0), Some: words(64, 1)}}, Threshes: []api.Thresh{{Mode: api.ModeGE, T: 1}, {Mode: api.ModeGE, T: 1}}},
		{Kind: api.LPool, Win: api.Window{R: 1, S: 1, StepY: 1, StepX: 1}},
		{Kind: api.LDense, Weight: api.Binary, K: 3, Rows: []api.Row{{Sign: words(4, 15), Some: words(4, 15)}, {Sign: words(4, 1), Some: words(4, 15)}, {Sign: words(4, 0), Some: words(4, 15)}}, Threshes: []api.Thresh{{Mode: api.ModeGE, T: 1}, {Mode: api.ModeGE, T: 1}, {Mode: api.ModeLE, T: -5}}},
		{Kind: api.LDense, Weight: api.Binary, K: 3, Rows: []api.Row{{Sign: words(3, 1), Some: words(3, 7)}, {Sign: words(3, 2), Some: words(3, 7)}, {Sign: words(3, 4), Some: words(3, 7)}}, Biases: []int64{0, 0, 0}},
	}}
	g := ready(m, api.Plan{Ways: []int{api.WayPatch, 0, 0, 0}, Slots: []api.Slot{{At: 3, Size: 2}, {At: 1, Size: 2}, {At: 4, Size: 1}, {}}, Words: 9})
	// To 0 and 0 all of the first layer's outputs are minuses. So the sums behind them are -4, -1 + 3 = 2 and 4; the outputs -1, 1, -1; the logits -1 - 1 + 1, 1 + 1 + 1 and 1 - 1 - 1.
	for _, dirt := range []uint64{0, 1, ^uint64(0), 0xaaaaaaaaaaaaaaaa} {
		for range 3 {
			g.arenas.give(filled(g.arenas.size, dirt))
		}
		if r, e := g.Run([]byte{0, 0}); e != api.OK || !slices.Equal(r.Logits, []int64{-1, 3, -1}) {
			t.Errorf("P22.6: with words of %x in the arena: %v, %d", dirt, r, e)
		}
		steps, e := g.Trace([]byte{0, 0})
		if e != api.OK || !slices.Equal(steps[0].Values, []int64{-1, -1, -1, -1}) || !slices.Equal(steps[1].Values, steps[0].Values) || !slices.Equal(steps[2].Values, []int64{-1, 1, -1}) {
			t.Errorf("P22.6: with words of %x in the arena: %v, %d", dirt, steps, e)
		}
	}
}
