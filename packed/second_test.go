package packed_test

import (
	"bytes"
	"encoding/binary"
	"hash/crc32"
	"slices"
	"strings"
	"testing"

	"heddle/api"
	"heddle/chunk"
	"heddle/fold"
	"heddle/net"
	"heddle/packed"
)

// A second reading of the chapter. faultOf asks the rules of any model, bit by bit; chunksOf writes the form of any model, whether it may be or not; told reads bytes as a model without asking whether they are one, and holds chunksOf of it against the bytes; meaning is the network.

var little = binary.LittleEndian

// rule is a sentence of the document: whether it holds, and the error if it does not.
type rule struct {
	holds bool
	e     api.Errno
}

func between(v, least, most int) bool { return v >= least && v <= most }

// broken is the first rule that does not hold.
func broken(rules ...rule) api.Errno {
	for _, r := range rules {
		if !r.holds {
			return r.e
		}
	}
	return api.OK
}

// stops counts the places of a window along one side by going from one to the next.
func stops(length, before, after, window, step int) int {
	n := 0
	for at := -before; step > 0 && at+window <= length+after; at += step {
		n++
	}
	return n
}

// faultOf is what the document says of a model: its fault's layer, its fault.
func faultOf(m api.Model) (int, api.Errno) {
	const letters = "abcdefghijklmnopqrstuvwxyzABCDEFGHIJKLMNOPQRSTUVWXYZ0123456789_-"
	in := m.In
	e := broken(
		rule{between(len(m.Name), 1, 32) && strings.Trim(m.Name, letters) == "", api.ErrName}, // a letter that may not be stops Trim
		rule{between(in.H, 1, 4096) && between(in.W, 1, 4096) && between(in.C, 1, 4096), api.ErrShape})
	if e == api.OK {
		e = broken(rule{in.H*in.W*in.C <= 1<<24, api.ErrBig}, rule{between(len(m.Packs), 1, 64), api.ErrLayers})
	}
	if e != api.OK {
		return -1, e
	}
	weights := 0
	for i, p := range m.Packs {
		out, count, e := faultOfLayer(p, in, weights, i == 0, i == len(m.Packs)-1)
		if e != api.OK {
			return i, e
		}
		weights, in = weights+count, out
	}
	return 0, api.OK
}

// faultOfLayer is the same of one layer: its output, how many weights it has, its fault.
func faultOfLayer(p api.Pack, in api.Shape, ahead int, first, end bool) (api.Shape, int, api.Errno) {
	conv, dense, pool := p.Kind == 1, p.Kind == 2, p.Kind == 3
	w, out := p.Win, in
	e := broken(
		rule{conv || dense || pool, api.ErrLayers},
		rule{!(first && pool), api.ErrLayers},
		rule{!end || dense, api.ErrLayers},
		rule{pool || between(p.K, 1, 4096), api.ErrShape},
		rule{!pool || p.K == 0 && p.Weight == 0 && p.Border == 0 && len(p.Rows)+len(p.Threshes)+len(p.Biases) == 0, api.ErrLayers},
		rule{!dense || w == api.Window{} && p.Border == 0, api.ErrLayers})
	if e == api.OK && !dense {
		e = broken(
			rule{between(w.R, 1, 15) && between(w.S, 1, 15) && between(w.StepY, 1, 15) && between(w.StepX, 1, 15), api.ErrWindow},
			rule{between(w.Top, 0, 14) && between(w.Left, 0, 14) && between(w.Bottom, 0, 14) && between(w.Right, 0, 14), api.ErrWindow},
			rule{!pool || w.Top+w.Left+w.Bottom+w.Right == 0, api.ErrWindow},
			rule{between(p.Border, -1, 1), api.ErrWindow},
			rule{w.Top+w.Left+w.Bottom+w.Right > 0 || p.Border == 0, api.ErrWindow})
		if e == api.OK {
			out.H, out.W = stops(in.H, w.Top, w.Bottom, w.R, w.StepY), stops(in.W, w.Left, w.Right, w.S, w.StepX)
			if conv {
				out.C = p.K
			}
			e = broken(
				rule{out.H > 0 && out.W > 0, api.ErrFit},
				rule{out.H <= 4096 && out.W <= 4096, api.ErrShape},
				rule{out.H*out.W*out.C <= 1<<24, api.ErrBig})
		}
	}
	if e != api.OK || pool {
		return out, 0, e
	}
	places, channels, gap := w.R*w.S, in.C, (64-in.C%64)%64
	if dense {
		places, channels, gap, out = 1, in.H*in.W*in.C, 0, of(1, 1, p.K)
	}
	fan := places * channels
	left := most - fan
	if first {
		left = most - fan*128
	}
	return out, p.K * fan, broken(
		rule{p.Weight == 1 || p.Weight == 2, api.ErrWeight},
		rule{ahead+p.K*fan <= 1<<24, api.ErrBig},
		rule{len(p.Rows) == p.K, api.ErrWeight},
		rule{!slices.ContainsFunc(p.Rows, func(r api.Row) bool { return !rowMayBe(r, places, channels, gap, p.Weight == 1) }), api.ErrWeight},
		rule{end || len(p.Threshes) == p.K && len(p.Biases) == 0, api.ErrThresh},
		rule{end || !slices.ContainsFunc(p.Threshes, func(t api.Thresh) bool { return !threshMayBe(t) }), api.ErrThresh},
		rule{!end || len(p.Biases) == p.K && len(p.Threshes) == 0, api.ErrBias},
		rule{left >= 0, api.ErrReach},
		rule{!slices.ContainsFunc(p.Biases, func(b int64) bool { return b > int64(left) || b < -int64(left) }), api.ErrReach})
}

// bit is a bit of any row of bits, 0 where it has no word.
func bit(b api.Bits, i int) int {
	if i < 0 || i/64 >= len(b.Words) {
		return 0
	}
	return int(b.Words[i/64] >> (i % 64) & 1)
}

func rowMayBe(r api.Row, places, channels, gap int, binary bool) bool {
	length := places * (channels + gap)
	for _, b := range []api.Bits{r.Sign, r.Some} {
		if b.Len != length || len(b.Words) != (length+63)/64 {
			return false
		}
	}
	for i := range 64 * len(r.Some.Words) {
		sign, some := bit(r.Sign, i), bit(r.Some, i)
		counts := i < length && i%(channels+gap) < channels
		if sign > some || some == 1 && !counts || some == 0 && counts && binary {
			return false
		}
	}
	return true
}

func threshMayBe(t api.Thresh) bool {
	switch t.Mode {
	case 1:
		return t.T > -most && t.T <= most
	case 2:
		return t.T >= -most && t.T < most
	}
	return (t.Mode == 3 || t.Mode == 4) && t.T == 0
}

// weightsOf are the weights that a layer's rows pack, whatever these are.
func weightsOf(p api.Pack, in api.Shape) []int8 {
	places, channels, wide := p.Win.R*p.Win.S, in.C, (in.C+63)/64*64
	if p.Kind == api.LDense {
		places, channels, wide = 1, in.H*in.W*in.C, 0
	}
	var list []int8
	for _, r := range p.Rows {
		for at := range max(places, 0) {
			for c := range max(channels, 0) {
				list = append(list, int8(2*bit(r.Sign, at*wide+c)-bit(r.Some, at*wide+c)))
			}
		}
	}
	return list
}

// outOf is the shape behind a layer.
func outOf(p api.Pack, in api.Shape) api.Shape {
	w := p.Win
	switch p.Kind {
	case api.LConv:
		return of(stops(in.H, w.Top, w.Bottom, w.R, w.StepY), stops(in.W, w.Left, w.Right, w.S, w.StepX), p.K)
	case api.LPool:
		return of(stops(in.H, w.Top, w.Bottom, w.R, w.StepY), stops(in.W, w.Left, w.Right, w.S, w.StepX), in.C)
	}
	return of(1, 1, p.K)
}

// container is the form of doc/08, with the library's sums.
func container(m uint32, cs ...api.Chunk) []byte {
	b := summed(little.AppendUint32(little.AppendUint32(nil, m), uint32(len(cs))))
	for _, c := range cs {
		b = append(b, summed(little.AppendUint32(little.AppendUint32(nil, c.Tag), uint32(len(c.Body))))...)
		b = append(b, summed(slices.Clone(c.Body))...)
	}
	return b
}

func summed(b []byte) []byte { return little.AppendUint32(b, crc32.ChecksumIEEE(b)) }

func laid(m api.Model) []byte { return container(magic, chunksOf(m)...) }

func chunksOf(m api.Model) []api.Chunk {
	body := append([]byte{byte(len(m.Name))}, m.Name...)
	for _, side := range []int{m.In.H, m.In.W, m.In.C} {
		body = little.AppendUint16(body, uint16(side))
	}
	cs := []api.Chunk{{Tag: 1, Body: append(body, byte(len(m.Packs)))}}
	in := m.In
	for i, p := range m.Packs {
		w := p.Win
		body := little.AppendUint16([]byte{byte(p.Kind), byte(p.Weight)}, uint16(p.K))
		body = append(body, byte(w.R), byte(w.S), byte(w.StepY), byte(w.StepX), byte(w.Top), byte(w.Left), byte(w.Bottom), byte(w.Right), byte(p.Border))
		cs = append(cs, api.Chunk{Tag: 2, Body: body})
		if p.Kind != api.LPool {
			cs = append(cs, api.Chunk{Tag: 3, Body: bytesOf(weightsOf(p, in))}, ends(p, i == len(m.Packs)-1))
		}
		in = outOf(p, in)
	}
	return cs
}

// bytesOf are weights, four a byte; the bits 2 stand for a place that is set in Sign alone.
func bytesOf(weights []int8) []byte {
	var b []byte
	for four := range slices.Chunk(weights, 4) {
		x := 0
		for i, w := range four {
			x += [4]int{1, 0, 3, 2}[w+1] << (2 * i)
		}
		b = append(b, byte(x))
	}
	return b
}

// ends is the chunk of thresholds or of biases.
func ends(p api.Pack, end bool) api.Chunk {
	var b []byte
	if end {
		for _, x := range p.Biases {
			b = little.AppendUint64(b, uint64(x))
		}
		return api.Chunk{Tag: 5, Body: b}
	}
	for _, x := range p.Threshes {
		b = little.AppendUint64(append(b, byte(x.Mode)), uint64(x.T))
	}
	return api.Chunk{Tag: 4, Body: b}
}

// cursor takes bytes from the front, and panics where there are none.
type cursor []byte

func (c *cursor) take(n int) []byte {
	b := (*c)[:n:n]
	*c = (*c)[n:]
	return b
}

func (c *cursor) byte() int { return int(c.take(1)[0]) }

func (c *cursor) two() int { return int(little.Uint16(c.take(2))) }

func (c *cursor) eight() int64 { return int64(little.Uint64(c.take(8))) }

// weights are n of them.
func (c *cursor) weights(n int) []int8 {
	var list []int8
	for _, x := range c.take((n + 3) / 4) {
		for range 4 {
			list = append(list, []int8{0, -1, 0, 1}[x&3])
			x >>= 2
		}
	}
	return list[:n]
}

// told is what bytes should be read as.
func told(b []byte) (m api.Model, e api.Errno) {
	cs, e := chunk.Read(magic, b)
	if e != api.OK {
		return api.Model{}, e
	}
	defer func() {
		if recover() != nil {
			m, e = api.Model{}, api.ErrPacked
		}
	}()
	next := func() *cursor {
		body := cursor(cs[0].Body)
		cs = cs[1:]
		return &body
	}
	c := next()
	m.Name = string(c.take(c.byte()))
	m.In = of(c.two(), c.two(), c.two())
	in, count := m.In, c.byte()
	for i := range count {
		c := next()
		p := api.Pack{Kind: c.byte(), Weight: c.byte(), K: c.two()}
		p.Win = win(c.byte(), c.byte(), c.byte(), c.byte(), c.byte(), c.byte(), c.byte(), c.byte())
		p.Border = int(int8(c.byte()))
		if p.Kind != api.LPool {
			toldLists(&p, in, next(), next(), i == count-1)
		}
		m.Packs = append(m.Packs, p)
		in = outOf(p, in)
	}
	// What was read without asking, as a Tag, is told by writing it again.
	if _, fault := faultOf(m); fault != api.OK || !bytes.Equal(laid(m), b) {
		return api.Model{}, api.ErrPacked
	}
	return m, api.OK
}

func toldLists(p *api.Pack, in api.Shape, weights, ends *cursor, end bool) {
	fan, channels, gap := in.H*in.W*in.C, in.H*in.W*in.C, 0
	if p.Kind == api.LConv {
		fan, channels, gap = p.Win.R*p.Win.S*in.C, in.C, (64-in.C%64)%64
	}
	list := weights.weights(p.K * fan)
	for k := range p.K {
		p.Rows = append(p.Rows, spread(channels, gap, list[k*fan:(k+1)*fan]))
		if end {
			p.Biases = append(p.Biases, ends.eight())
		} else {
			p.Threshes = append(p.Threshes, api.Thresh{Mode: ends.byte(), T: ends.eight()})
		}
	}
}

// meaning is the network of a model that may be.
func meaning(m api.Model) api.Net {
	n := api.Net{Name: m.Name, In: m.In}
	in := m.In
	for _, p := range m.Packs {
		l := api.Layer{Kind: p.Kind, Weight: p.Weight, K: p.K, Win: p.Win, Border: p.Border, Weights: weightsOf(p, in), Biases: p.Biases}
		for _, t := range p.Threshes {
			norm, _ := fold.Norm(t)
			l.Norms = append(l.Norms, norm)
		}
		n.Layers = append(n.Layers, l)
		in = outOf(p, in)
	}
	return n
}

// alike holds all calls of a model that may be against the second reading.
func alike(t *testing.T, what string, m api.Model) {
	t.Helper()
	if at, e := faultOf(m); e != api.OK {
		t.Fatalf("the test's own model %s may not be: %d, %d", what, at, e)
	}
	b := laid(m)
	if len(b) > api.MaxBytes {
		t.Errorf("P19.3: %s has %d bytes", what, len(b))
	}
	writes(t, what, m, b)
	means(t, what, m, meaning(m))
}

// against holds Decode against the second reading, and what it answers against Encode.
func against(t *testing.T, b []byte) api.Errno {
	t.Helper()
	want, e := told(b)
	m, got := packed.Decode(b)
	if got != e || !same(m, want) {
		t.Errorf("P19.3: %.600x: %d, not %d\n%+v\n%+v", b, got, e, m, want)
	}
	if got != api.OK {
		return got
	}
	if again, e := packed.Encode(m); e != api.OK || !bytes.Equal(again, b) {
		t.Errorf("P19.4: %.600x is read and written as %.600x, %d", b, again, e)
	}
	if n, e := packed.Meaning(m); e != api.OK || !net.Equal(n, meaning(want)) {
		t.Errorf("P19.5: %.600x: %d, %+v", b, e, n)
	}
	return got
}
