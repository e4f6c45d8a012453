package engine_test

import (
	"slices"
	"testing"

	"heddle/api"
	"heddle/arena"
)

// dice gives numbers that look like any, the same ones in every run of the tests.
type dice uint64

// roll is a number from least to most.
func (d *dice) roll(least, most int) int {
	*d = *d*6364136223846793005 + 1442695040888963407
	return least + int(uint64(*d)>>33)%(most-least+1)
}

// weights are n of -1, 0 and 1.
func (d *dice) weights(n int) []int8 {
	w := make([]int8, n)
	for i := range w {
		w[i] = int8(d.roll(-1, 1))
	}
	return w
}

// signs are n of -1 and 1.
func (d *dice) signs(n int) []int8 {
	w := make([]int8, n)
	for i := range w {
		w[i] = int8(2*d.roll(0, 1) - 1)
	}
	return w
}

// norms are k of them, most of whose answers change among sums of at most about reach in amount.
func (d *dice) norms(k, reach int) []api.Norm {
	var norms []api.Norm
	for range k {
		t := int64(d.roll(-reach, reach))
		n := from(t)
		switch d.roll(0, 11) {
		case 0:
			n = always()
		case 1:
			n = never()
		case 2, 3, 4:
			n = upTo(t)
		case 5, 6:
			n = api.Norm{G: fr(int64(d.roll(-3, 3)), 2), B: fr(int64(d.roll(-5, 5)), 3), M: fr(2*t+1, 2), S: fr(int64(d.roll(1, 5)), 4)}
		}
		norms = append(norms, n)
	}
	return norms
}

// channels are few mostly, and now and then about as many as fill words.
func (d *dice) channels() int {
	if d.roll(0, 3) > 0 {
		return d.roll(1, 5)
	}
	return []int{62, 63, 64, 65, 66, 127, 128, 129}[d.roll(0, 7)]
}

// outOf is the shape behind a layer that may be.
func outOf(l api.Layer, in api.Shape) api.Shape {
	w := l.Win
	if l.Kind == api.LDense {
		return of(1, 1, l.K)
	}
	out := of((in.H+w.Top+w.Bottom-w.R)/w.StepY+1, (in.W+w.Left+w.Right-w.S)/w.StepX+1, in.C)
	if l.Kind == api.LConv {
		out.C = l.K
	}
	return out
}

// layer is one that may stand behind what comes in.
func (d *dice) layer(in api.Shape, begins bool) api.Layer {
	kind, k, reach := d.roll(1, 4), d.channels(), 4
	if begins {
		reach = 300
	}
	if kind == api.LPool && !begins {
		return pool(win(d.roll(1, min(3, in.H)), d.roll(1, min(3, in.W)), d.roll(1, 3), d.roll(1, 3), 0, 0, 0, 0))
	}
	var l api.Layer
	if kind == api.LDense {
		l = dense(d.weights(k*count(in)), d.norms(k, reach)...)
		if d.roll(0, 1) == 0 {
			l.Weight, l.Weights = api.Binary, d.signs(k*count(in))
		}
		return l
	}
	w := d.window(in)
	l = conv(w, d.roll(-1, 1), d.weights(k*w.R*w.S*in.C), d.norms(k, reach)...)
	if w.Top+w.Left+w.Bottom+w.Right == 0 {
		l.Border = 0
	}
	if d.roll(0, 1) == 0 {
		l.Weight, l.Weights = api.Binary, d.signs(k*w.R*w.S*in.C)
	}
	return l
}

// window is one that fits, now and then with borders that are wider than itself.
func (d *dice) window(in api.Shape) api.Window {
	wide := 2
	if d.roll(0, 9) == 0 {
		wide = 5
	}
	w := win(1, 1, d.roll(1, 3), d.roll(1, 3), d.roll(0, wide), d.roll(0, wide), d.roll(0, wide), d.roll(0, wide))
	if d.roll(0, 2) == 0 {
		w.Top, w.Left, w.Bottom, w.Right = 0, 0, 0, 0
	}
	w.R, w.S = d.roll(1, min(4, in.H+w.Top+w.Bottom)), d.roll(1, min(4, in.W+w.Left+w.Right))
	return w
}

// network is one of one to six layers.
func (d *dice) network() api.Net { return d.behind(of(d.roll(1, 5), d.roll(1, 5), d.channels())) }

// behind is a network with that input.
func (d *dice) behind(in api.Shape) api.Net {
	n := network(in)
	for i := range d.roll(0, 5) {
		l := d.layer(in, i == 0)
		n.Layers = append(n.Layers, l)
		in = outOf(l, in)
	}
	biases := make([]int64, d.channels())
	for i := range biases {
		biases[i] = int64(d.roll(-5, 5))
	}
	l := last(d.weights(len(biases)*count(in)), biases...)
	if d.roll(0, 1) == 0 {
		l.Weight, l.Weights = api.Binary, d.signs(len(biases)*count(in))
	}
	n.Layers = append(n.Layers, l)
	return n
}

// networks are the tests' own, and so many others.
func (d *dice) networks(many int) []api.Net {
	list := []api.Net{tiny(5, -5), edge(0, from(0)), edge(-1, from(6)), edgePool(1, upTo(9)), mixed()}
	for range many {
		list = append(list, d.network())
	}
	return list
}

// inputs are some of a network's size: even ones, those at both ends, any.
func (d *dice) inputs(n api.Net, many int) [][]byte {
	size := count(n.In)
	var all [][]byte
	for _, b := range []byte{0, 127, 128, 255} {
		all = append(all, slices.Repeat([]byte{b}, size))
	}
	for range many {
		ends, any := make([]byte, size), make([]byte, size)
		for i := range size {
			ends[i], any[i] = byte(127+d.roll(0, 1)), byte(d.roll(0, 255))
		}
		all = append(all, ends, any)
	}
	return all
}

// ways are some for the layers of a model.
func (d *dice) ways(m api.Model) []int {
	ways := make([]int, len(m.Packs))
	for i, p := range m.Packs {
		if p.Kind == api.LConv {
			ways[i] = d.roll(1, 3)
		}
	}
	return ways
}

// plan is any one that may be for a model: each output lies anywhere beside the one ahead, often just beside it.
func (d *dice) plan(t *testing.T, m api.Model) api.Plan {
	t.Helper()
	p, e := arena.Make(m, d.ways(m)...)
	if e != api.OK {
		t.Fatalf("the test's own model may not be: %d", e)
	}
	p.Words += d.roll(0, 2*p.Words+3)
	for i := range p.Slots[:len(p.Slots)-1] {
		s := &p.Slots[i]
		s.At = d.roll(0, p.Words-s.Size)
		// Where it would lie over the one ahead it goes to one of that one's sides.
		if i == 0 || s.At+s.Size <= p.Slots[i-1].At || s.At >= p.Slots[i-1].At+p.Slots[i-1].Size {
			continue
		}
		s.At = p.Slots[i-1].At - s.Size
		if s.At < 0 {
			s.At = p.Slots[i-1].At + p.Slots[i-1].Size
			p.Words = max(p.Words, s.At+s.Size)
		}
	}
	if e := arena.Check(m, p); e != api.OK {
		t.Fatalf("the test's own plan may not be: %d, %+v", e, p)
	}
	return p
}
