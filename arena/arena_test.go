package arena_test

import (
	"slices"
	"testing"

	"heddle/api"
	"heddle/arena"
)

func TestExamplesOfTheDocument(t *testing.T) {
	m := chapter()
	lie := slots(0, 16, 16, 4, 0, 2, 0, 0)
	makes(t, "m", m, nil, plan([]int{1, 0, 0, 0}, lie, 20), api.OK)
	makes(t, "m, 3", m, []int{3}, plan([]int{3, 0, 0, 0}, lie, 20), api.OK)
	for _, ways := range [][]int{{0, 1}, {4}, {-1}} {
		makes(t, "m with a wrong way", m, ways, api.Plan{}, api.ErrArg)
	}
	makes(t, "m with a way too many", m, []int{0, 0, 0, 0, 0}, api.Plan{}, api.ErrLong)
	makes(t, "one LDense", lone(), nil, plan([]int{0}, slots(0, 0), 0), api.OK)
	p := made(t, m)
	checks(t, "Make's", m, p, api.OK)
	for _, c := range []struct {
		what string
		do   func(p *api.Plan)
		e    api.Errno
	}{
		{"Words 19", func(p *api.Plan) { p.Words = 19 }, api.ErrArena},
		{"the second Slot at 15", func(p *api.Plan) { p.Slots[1].At = 15 }, api.ErrArena},
		{"the third Slot at 16", func(p *api.Plan) { p.Slots[2].At = 16 }, api.ErrArena},
		{"the last Slot's At 1", func(p *api.Plan) { p.Slots[3].At = 1 }, api.ErrArena},
		{"Words 100, other Slots", func(p *api.Plan) { p.Words, p.Slots = 100, slots(80, 16, 0, 4, 4, 2, 0, 0) }, api.OK},
		{"Words 2^26 + 1", func(p *api.Plan) { p.Words = maxWords + 1 }, api.ErrArena},
	} {
		other := own(p)
		c.do(&other)
		checks(t, c.what, m, other, c.e)
	}
	m.Packs[2].K = 71
	makes(t, "a model that may not be", m, nil, api.Plan{}, api.ErrWeight)
}

// TestWrittenOut: plans that were worked out by hand.
func TestWrittenOut(t *testing.T) {
	for _, c := range []struct {
		what string
		m    api.Model
		ways []int
		p    api.Plan
	}{
		{"two layers", two(), nil, plan([]int{1, 0}, slots(0, 12, 0, 0), 12)},
		{"two layers, by blocks", two(), []int{3, 0}, plan([]int{3, 0}, slots(0, 12, 0, 0), 12)},
		{"two dense layers", row(4), []int{0, 0}, plan([]int{0, 0}, slots(0, 4, 0, 0), 4)},
		{"rising", row(1, 2, 3, 4, 5), nil, plan(make([]int, 6), slots(0, 1, 7, 2, 0, 3, 5, 4, 0, 5, 0, 0), 9)},
		{"falling", row(5, 4, 3, 2, 1), nil, plan(make([]int, 6), slots(0, 5, 5, 4, 0, 3, 7, 2, 0, 1, 0, 0), 9)},
		{"a hill", row(1, 3, 1), nil, plan(make([]int, 4), slots(0, 1, 1, 3, 0, 1, 0, 0), 4)},
		{"a valley", row(3, 1, 3), nil, plan(make([]int, 4), slots(0, 3, 3, 1, 0, 3, 0, 0), 4)},
		{"alike", row(2, 2, 2, 2), nil, plan(make([]int, 5), slots(0, 2, 2, 2, 0, 2, 2, 2, 0, 0), 4)},
		{"the greatest last", row(1, 1, 9), nil, plan(make([]int, 4), slots(0, 1, 9, 1, 0, 9, 0, 0), 10)},
		{"an even number ahead of the last", row(2, 7), nil, plan(make([]int, 3), slots(0, 2, 2, 7, 0, 0), 9)},
		{"mixed", mixed(), []int{0, 0, 0, 2, 3}, plan([]int{1, 0, 0, 2, 3, 1, 0, 0}, slots(0, 12, 29, 4, 0, 2, 24, 9, 0, 24, 25, 8, 0, 1, 0, 0), 33)},
		{"great", great(), []int{2}, plan([]int{2, 1, 0, 0}, slots(0, 1<<24, 1<<24, 1<<24, 0, 74529, 0, 0), 1<<25)},
	} {
		makes(t, c.what, c.m, c.ways, c.p, api.OK)
		checks(t, c.what, c.m, c.p, api.OK)
	}
}

// expected is the plan that P21.1 names, from the sizes of the outputs.
func expected(m api.Model, ways []int) api.Plan {
	sizes := sizesOf(m)
	p := plan(make([]int, len(sizes)), make([]api.Slot, len(sizes)), 0)
	for i := 0; i+1 < len(sizes); i++ {
		if sum := sizes[i] + sizes[i+1]; sum > p.Words {
			p.Words = sum
		}
	}
	for i, size := range sizes {
		if i < len(ways) {
			p.Ways[i] = ways[i]
		}
		if m.Packs[i].Kind == api.LConv && p.Ways[i] == 0 {
			p.Ways[i] = 1
		}
		if p.Slots[i].Size = size; i%2 == 1 && i < len(sizes)-1 {
			p.Slots[i].At = p.Words - size
		}
	}
	return p
}

// TestChannels: outputs whose channels are around whole words, of every kind of layer.
func TestChannels(t *testing.T) {
	for channels, words := range map[int]int{1: 1, 2: 1, 62: 1, 63: 1, 64: 1, 65: 2, 66: 2, 127: 2, 128: 2, 129: 3, 192: 3, 193: 4, 4032: 63, 4033: 64, 4095: 64, 4096: 64} {
		m := model(of(2, 3, 1), conv(channels, point()), pool(win(2, 2, 1, 1, 0, 0, 0, 0)), dense(1), dense(channels), dense(1))
		p := made(t, m)
		want := slots(0, 6*words, 6*words, 2*words, 0, 1, 7*words, words, 0, 0)
		if !slices.Equal(p.Slots, want) || p.Words != 8*words {
			t.Errorf("P21.1: %d channels: %v, %d words, not %v, %d", channels, p.Slots, p.Words, want, 8*words)
		}
		checks(t, "channels", m, p, api.OK)
		p.Words++
		p.Slots[3].Size++
		checks(t, "a word more than the channels have", m, p, api.ErrArena)
	}
	// Logits lie nowhere, however many they are; the input is not in the arena.
	makes(t, "4096 logits", model(of(1, 1, 4096), dense(4096)), nil, plan([]int{0}, slots(0, 0), 0), api.OK)
	makes(t, "a great input", model(of(64, 64, 1), conv(1, win(15, 15, 15, 15, 0, 0, 0, 0)), dense(100)), nil, plan([]int{1, 0}, slots(0, 16, 0, 0), 16), api.OK)
}

// TestManyModels: models of all sorts have the plan that P21.1 names, with any ways.
func TestManyModels(t *testing.T) {
	for what, m := range models() {
		makes(t, what, m, nil, expected(m, nil), api.OK)
	}
	d := dice(21)
	for range 500 {
		m := d.model()
		ways := d.ways(m, d.roll(0, len(m.Packs)))
		makes(t, "any model", m, ways, expected(m, ways), api.OK)
		if e := arena.Check(m, made(t, m, ways...)); e != api.OK {
			t.Errorf("P21.3: Make's plan may not be: %d, of the sizes %v", e, sizesOf(m))
		}
	}
}

// TestWindows: the outputs of windows with steps and borders, of each side apart.
func TestWindows(t *testing.T) {
	for _, c := range []struct {
		w    api.Window
		size int
	}{
		{win(1, 1, 1, 1, 0, 0, 0, 0), 35}, {win(2, 1, 1, 1, 0, 0, 0, 0), 28}, {win(1, 2, 1, 1, 0, 0, 0, 0), 30}, {win(1, 1, 2, 1, 0, 0, 0, 0), 21}, {win(1, 1, 1, 2, 0, 0, 0, 0), 20},
		{win(1, 1, 1, 1, 1, 0, 0, 0), 42}, {win(1, 1, 1, 1, 0, 1, 0, 0), 40}, {win(1, 1, 1, 1, 0, 0, 1, 0), 42}, {win(1, 1, 1, 1, 0, 0, 0, 1), 40}, {win(3, 3, 2, 3, 2, 2, 2, 2), 12},
		{win(5, 7, 15, 15, 0, 0, 0, 0), 1}, {win(15, 15, 1, 1, 14, 14, 14, 14), 19 * 21}, {win(1, 1, 15, 15, 14, 14, 14, 14), 9},
	} {
		m := model(of(5, 7, 2), conv(64, c.w), dense(1))
		makes(t, "a window of an LConv", m, nil, plan([]int{1, 0}, slots(0, c.size, 0, 0), c.size), api.OK)
		if c.w.Top+c.w.Left+c.w.Bottom+c.w.Right > 0 {
			continue
		}
		m = model(of(5, 7, 2), conv(65, point()), pool(c.w), dense(1))
		makes(t, "a window of an LPool", m, nil, plan([]int{1, 0, 0}, slots(0, 70, 70, 2*c.size, 0, 0), 70+2*c.size), api.OK)
	}
}
