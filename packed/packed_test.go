package packed_test

import (
	"bytes"
	"encoding/hex"
	"reflect"
	"slices"
	"strings"
	"testing"

	"heddle/api"
	"heddle/chunk"
	"heddle/net"
	"heddle/packed"
)

// magic is that of a packed model.
const magic = 0x706c6468

const (
	full = ^uint64(0)
	most = 1<<31 - 1 // MaxSum
)

func of(h, w, c int) api.Shape { return api.Shape{H: h, W: w, C: c} }

// win is a window: its size, its steps, its borders (Top Left Bottom Right).
func win(r, s, y, x, top, left, bottom, right int) api.Window {
	return api.Window{R: r, S: s, StepY: y, StepX: x, Top: top, Left: left, Bottom: bottom, Right: right}
}

// point is the window of one place.
func point() api.Window { return win(1, 1, 1, 1, 0, 0, 0, 0) }

func bits(length int, words ...uint64) api.Bits { return api.Bits{Len: length, Words: words} }

// row is one of so many bits, with its words of Sign and of Some.
func row(length int, sign, some []uint64) api.Row {
	return api.Row{Sign: bits(length, sign...), Some: bits(length, some...)}
}

// ge are thresholds: from each of the numbers on.
func ge(from ...int64) []api.Thresh {
	var list []api.Thresh
	for _, t := range from {
		list = append(list, api.Thresh{Mode: api.ModeGE, T: t})
	}
	return list
}

// spread lays weights into a row, gap bits behind every channels of them.
func spread(channels, gap int, weights []int8) api.Row {
	length := len(weights) / channels * (channels + gap)
	r := row(length, make([]uint64, (length+63)/64), make([]uint64, (length+63)/64))
	for i, w := range weights {
		at := i/channels*(channels+gap) + i%channels
		if w != 0 {
			r.Some.Words[at/64] += 1 << (at % 64)
		}
		if w == 1 {
			r.Sign.Words[at/64] += 1 << (at % 64)
		}
	}
	return r
}

// turns are n weights, in turn.
func turns(n int, turn ...int8) []int8 { return slices.Repeat(turn, n/len(turn)+1)[:n] }

// rowsOf are the rows of k outputs, with the weights in turn.
func rowsOf(k, places, channels, gap int, turn ...int8) []api.Row {
	fan := places * channels
	weights := turns(k*fan, turn...)
	var list []api.Row
	for i := range k {
		list = append(list, spread(channels, gap, weights[i*fan:(i+1)*fan]))
	}
	return list
}

func conv(k int, w api.Window, channels int) api.Pack {
	return api.Pack{Kind: api.LConv, Weight: api.Binary, K: k, Win: w, Rows: rowsOf(k, w.R*w.S, channels, (64-channels%64)%64, 1, -1, -1), Threshes: slices.Repeat(ge(0), k)}
}

func dense(k, in int) api.Pack {
	return api.Pack{Kind: api.LDense, Weight: api.Binary, K: k, Rows: rowsOf(k, 1, in, 0, -1, 1, 1), Threshes: slices.Repeat(ge(0), k)}
}

func last(k, in int) api.Pack {
	return api.Pack{Kind: api.LDense, Weight: api.Ternary, K: k, Rows: rowsOf(k, 1, in, 0, 0, -1, 1, 1, 0), Biases: make([]int64, k)}
}

func pool(w api.Window) api.Pack { return api.Pack{Kind: api.LPool, Win: w} }

func model(in api.Shape, packs ...api.Pack) api.Model {
	return api.Model{Name: "m", In: in, Packs: packs}
}

func tiny() api.Model {
	return api.Model{Name: "tiny", In: of(1, 1, 3), Packs: []api.Pack{{Kind: api.LDense, Weight: api.Ternary, K: 2,
		Rows: []api.Row{row(3, []uint64{1}, []uint64{5}), row(3, []uint64{7}, []uint64{7})}, Biases: []int64{5, -5}}}}
}

// edge is doc/22's: its LConv has a row of 9 * 64 bits.
func edge() api.Model {
	nine := slices.Repeat([]uint64{1}, 9)
	return api.Model{Name: "edge", In: of(2, 2, 1), Packs: []api.Pack{
		{Kind: api.LConv, Weight: api.Binary, K: 1, Win: win(3, 3, 1, 1, 1, 1, 1, 1), Rows: []api.Row{row(576, nine, slices.Clone(nine))}, Threshes: ge(0)},
		{Kind: api.LDense, Weight: api.Binary, K: 2, Rows: []api.Row{row(4, []uint64{15}, []uint64{15}), row(4, []uint64{5}, []uint64{15})}, Biases: []int64{0, 0}},
	}}
}

// mixed has layers of all kinds; its shapes are (4, 3, 2), (3, 4, 2), (2, 2, 2), (1, 1, 3), (2, 3, 2), (1, 1, 2).
func mixed() api.Model {
	return api.Model{Name: "Mixed_-9", In: of(4, 3, 2), Packs: []api.Pack{
		{Kind: api.LConv, Weight: api.Ternary, K: 2, Win: win(2, 3, 2, 1, 1, 0, 2, 3), Border: -1, Rows: []api.Row{
			row(384, []uint64{1, 0, 0, 0, 3, 1}, []uint64{1, 3, 0, 2, 3, 3}), // 1 0, -1 -1, 0 0, 0 -1, 1 1, 1 -1
			row(384, []uint64{2, 0, 0, 1, 2, 0}, []uint64{3, 0, 1, 1, 2, 3}), // -1 1, 0 0, -1 0, 1 0, 0 1, -1 -1
		}, Threshes: []api.Thresh{{Mode: api.ModeGE, T: -1}, {Mode: api.ModeLE, T: 300}}},
		pool(win(2, 1, 1, 3, 0, 0, 0, 0)),
		{Kind: api.LDense, Weight: api.Binary, K: 3, Rows: []api.Row{
			row(8, []uint64{0x53}, []uint64{0xff}), // 1 1 -1 -1 1 -1 1 -1
			row(8, []uint64{0xf5}, []uint64{0xff}), // 1 -1 1 -1 1 1 1 1
			row(8, []uint64{0x06}, []uint64{0xff}), // -1 1 1 -1 -1 -1 -1 -1
		}, Threshes: []api.Thresh{{Mode: api.ModeMinus}, {Mode: api.ModePlus}, {Mode: api.ModeLE, T: -most}}},
		{Kind: api.LConv, Weight: api.Binary, K: 2, Win: win(1, 1, 1, 1, 1, 0, 0, 2), Border: 1, Rows: []api.Row{
			row(64, []uint64{5}, []uint64{7}), // 1 -1 1
			row(64, []uint64{3}, []uint64{7}), // 1 1 -1
		}, Threshes: ge(most, 1-most)},
		{Kind: api.LDense, Weight: api.Ternary, K: 2, Rows: []api.Row{
			row(12, []uint64{0x924}, []uint64{0xdb6}), // 0 -1 1, four times
			row(12, []uint64{0}, []uint64{0}),
		}, Biases: []int64{-2147483635, 2147483635}},
	}}
}

// mixedNet is what mixed means, worked out by hand.
func mixedNet() api.Net {
	fr := func(n int64) api.Frac { return api.Frac{Num: n, Den: 1} }
	norm := func(g, b, m int64) api.Norm { return api.Norm{G: fr(g), B: fr(b), M: fr(m), S: fr(1)} }
	return api.Net{Name: "Mixed_-9", In: of(4, 3, 2), Layers: []api.Layer{
		{Kind: api.LConv, Weight: api.Ternary, K: 2, Win: win(2, 3, 2, 1, 1, 0, 2, 3), Border: -1,
			Weights: []int8{1, 0, -1, -1, 0, 0, 0, -1, 1, 1, 1, -1, -1, 1, 0, 0, -1, 0, 1, 0, 0, 1, -1, -1},
			Norms:   []api.Norm{norm(1, 0, -1), norm(-1, 0, 300)}},
		{Kind: api.LPool, Win: win(2, 1, 1, 3, 0, 0, 0, 0)},
		{Kind: api.LDense, Weight: api.Binary, K: 3,
			Weights: []int8{1, 1, -1, -1, 1, -1, 1, -1, 1, -1, 1, -1, 1, 1, 1, 1, -1, 1, 1, -1, -1, -1, -1, -1},
			Norms:   []api.Norm{norm(0, -1, 0), norm(0, 0, 0), norm(-1, 0, -most)}},
		{Kind: api.LConv, Weight: api.Binary, K: 2, Win: win(1, 1, 1, 1, 1, 0, 0, 2), Border: 1, Weights: []int8{1, -1, 1, 1, 1, -1}, Norms: []api.Norm{norm(1, 0, most), norm(1, 0, 1-most)}},
		{Kind: api.LDense, Weight: api.Ternary, K: 2, Weights: append(turns(12, 0, -1, 1), make([]int8, 12)...), Biases: []int64{-2147483635, 2147483635}},
	}}
}

// mixedChunks are what the form says of mixed, worked out by hand.
func mixedChunks() []api.Chunk {
	return []api.Chunk{
		{Tag: 1, Body: hexed("08 4d697865645f2d39 0400 0300 0200 05")},
		{Tag: 2, Body: hexed("01 02 0200 02 03 02 01 01 00 02 03 ff")},
		{Tag: 3, Body: hexed("53 40 7f 0d 31 5c")},
		{Tag: 4, Body: hexed("01 ffffffffffffffff 02 2c01000000000000")},
		{Tag: 2, Body: hexed("03 00 0000 02 01 01 03 00 00 00 00 00")},
		{Tag: 2, Body: hexed("02 01 0300 00 00 00 00 00 00 00 00 00")},
		{Tag: 3, Body: hexed("5f 77 77 ff 7d 55")},
		{Tag: 4, Body: hexed("04 0000000000000000 03 0000000000000000 02 01000080ffffffff")},
		{Tag: 2, Body: hexed("01 01 0200 01 01 01 01 01 00 00 02 01")},
		{Tag: 3, Body: hexed("f7 07")},
		{Tag: 4, Body: hexed("01 ffffff7f00000000 01 02000080ffffffff")},
		{Tag: 2, Body: hexed("02 02 0200 00 00 00 00 00 00 00 00 00")},
		{Tag: 3, Body: hexed("34 4d d3 00 00 00")},
		{Tag: 5, Body: hexed("0d000080ffffffff f3ffff7f00000000")},
	}
}

// hexed are the bytes that are written in hex, blanks between them left out.
func hexed(s string) []byte {
	b, err := hex.DecodeString(strings.ReplaceAll(s, " ", ""))
	if err != nil {
		panic(err)
	}
	return b
}

// settled is a model without the difference between nil and empty lists.
func settled(m api.Model) api.Model {
	m.Packs = slices.Clone(m.Packs)
	for i, p := range m.Packs {
		p.Rows, p.Threshes, p.Biases = append([]api.Row{}, p.Rows...), append([]api.Thresh{}, p.Threshes...), append([]int64{}, p.Biases...)
		for k, r := range p.Rows {
			p.Rows[k] = row(0, append([]uint64{}, r.Sign.Words...), append([]uint64{}, r.Some.Words...))
			p.Rows[k].Sign.Len, p.Rows[k].Some.Len = r.Sign.Len, r.Some.Len
		}
		m.Packs[i] = p
	}
	m.Packs = append([]api.Pack{}, m.Packs...)
	return m
}

func same(a, b api.Model) bool { return reflect.DeepEqual(settled(a), settled(b)) }

// checks: Check answers this; where it is an error, Encode and Meaning answer it too, and nothing else.
func checks(t *testing.T, what string, m api.Model, layer int, e api.Errno) {
	t.Helper()
	if at, got := packed.Check(m); at != layer || got != e {
		t.Errorf("P19.1: %s: %d, %d, not %d, %d", what, at, got, layer, e)
	}
	if e == api.OK {
		return
	}
	if b, got := packed.Encode(m); got != e || b != nil {
		t.Errorf("P19.3: %s: Encode answers %d bytes, %d, not %d", what, len(b), got, e)
	}
	if n, got := packed.Meaning(m); got != e || !net.Equal(n, api.Net{}) {
		t.Errorf("P19.5: %s: Meaning answers %d, not %d", what, got, e)
	}
}

// writes: the model may be, Encode answers want, and Decode the model again.
func writes(t *testing.T, what string, m api.Model, want []byte) {
	t.Helper()
	checks(t, what, m, 0, api.OK)
	if b, e := packed.Encode(m); e != api.OK || !bytes.Equal(b, want) {
		t.Errorf("P19.2: %s: %d, %.300x, not %.300x", what, e, b, want)
	}
	back, e := packed.Decode(want)
	if e != api.OK || !same(back, m) {
		t.Errorf("P19.4: %s: %d, %.300x", what, e, want)
	}
	if b, e := packed.Encode(back); e != api.OK || !bytes.Equal(b, want) {
		t.Errorf("P19.4: %s: written, read and written: %d, %.300x, not %.300x", what, e, b, want)
	}
}

// refused: Decode answers e, and no model.
func refused(t *testing.T, what string, b []byte, e api.Errno) {
	t.Helper()
	if m, got := packed.Decode(b); got != e || !reflect.DeepEqual(m, api.Model{}) {
		t.Errorf("P19.3: %s: %d, not %d; the name %q, %d layers", what, got, e, m.Name, len(m.Packs))
	}
}

// means: Meaning answers n, and it may be.
func means(t *testing.T, what string, m api.Model, n api.Net) {
	t.Helper()
	got, e := packed.Meaning(m)
	if e != api.OK || !net.Equal(got, n) {
		t.Errorf("P19.5: %s: %d, %+v, not %+v", what, e, got, n)
	}
	if at, e := net.Check(got); e != api.OK {
		t.Errorf("P19.5: %s: the network may not be: %d, %d", what, at, e)
	}
}

func TestExamplesOfTheDocument(t *testing.T) {
	cs := []api.Chunk{
		{Tag: 1, Body: hexed("04 74 69 6e 79 0100 0100 0300 01")}, {Tag: 2, Body: hexed("02 02 0200 00 00 00 00 00 00 00 00 00")},
		{Tag: 3, Body: hexed("d3 0f")}, {Tag: 5, Body: hexed("05 00000000000000 fb ffffffffffffff")},
	}
	writes(t, "tiny", tiny(), container(magic, cs...))
	means(t, "tiny", tiny(), api.Net{Name: "tiny", In: of(1, 1, 3), Layers: []api.Layer{{Kind: api.LDense, Weight: api.Ternary, K: 2, Weights: []int8{1, 0, -1, 1, 1, 1}, Biases: []int64{5, -5}}}})
	for _, c := range []struct {
		what  string
		layer int
		e     api.Errno
		do    func(m *api.Model, p *api.Pack)
	}{
		{"Binary", 0, api.ErrWeight, func(m *api.Model, p *api.Pack) { p.Weight = api.Binary }},
		{"a bit of Some behind the end", 0, api.ErrWeight, func(m *api.Model, p *api.Pack) { p.Rows[0].Some.Words[0] = 13 }},
		{"Len 4", 0, api.ErrWeight, func(m *api.Model, p *api.Pack) { p.Rows[0].Some.Len, p.Rows[0].Sign.Len = 4, 4 }},
		{"Sign 2", 0, api.ErrWeight, func(m *api.Model, p *api.Pack) { p.Rows[0].Sign.Words[0] = 2 }},
		{"without Rows", 0, api.ErrWeight, func(m *api.Model, p *api.Pack) { p.Rows = nil }},
		{"one bias", 0, api.ErrBias, func(m *api.Model, p *api.Pack) { p.Biases = p.Biases[:1] }},
		{"a Thresh more", 0, api.ErrBias, func(m *api.Model, p *api.Pack) { p.Threshes = ge(0) }},
		{"named ti ny", -1, api.ErrName, func(m *api.Model, p *api.Pack) { m.Name = "ti ny" }},
		{"no layers", -1, api.ErrLayers, func(m *api.Model, p *api.Pack) { m.Packs = nil }},
	} {
		m := tiny()
		c.do(&m, &m.Packs[0])
		checks(t, c.what, m, c.layer, c.e)
	}
	refused(t, "no bytes", nil, api.ErrShort)
	refused(t, "another magic", container(magic+1, cs...), api.ErrTag)
	for what, body := range map[string]string{"2 is no weight": "93 0f", "a bit is left over": "d3 1f", "too short": "d3"} {
		refused(t, what, container(magic, cs[0], cs[1], api.Chunk{Tag: 3, Body: hexed(body)}, cs[3]), api.ErrPacked)
	}
	refused(t, "another order", container(magic, cs[0], cs[1], cs[3], cs[2]), api.ErrPacked)
	refused(t, "one more", container(magic, cs[0], cs[1], cs[2], cs[3], cs[3]), api.ErrPacked)

	m := model(of(1, 2, 3),
		api.Pack{Kind: api.LConv, Weight: api.Binary, K: 1, Win: win(1, 2, 1, 1, 0, 0, 0, 0), Rows: []api.Row{row(128, []uint64{5, 3}, []uint64{7, 7})}, Threshes: ge(0)},
		last(1, 1))
	b, e := packed.Encode(m)
	got, _ := chunk.Read(magic, b)
	if e != api.OK || len(got) != 7 || !bytes.Equal(got[2].Body, []byte{0xf7, 0x07}) {
		t.Errorf("P19.2: a convolution of 3 channels: %d, %v", e, got)
	}
	if n, e := packed.Meaning(m); e != api.OK || !slices.Equal(n.Layers[0].Weights, []int8{1, -1, 1, 1, 1, -1}) {
		t.Errorf("P19.5: a convolution of 3 channels: %d, %v", e, n)
	}
}

// TestWrittenOut: models whose bytes, and meanings, were worked out by hand.
func TestWrittenOut(t *testing.T) {
	writes(t, "mixed", mixed(), container(magic, mixedChunks()...))
	means(t, "mixed", mixed(), mixedNet())
	least := api.Model{Name: "a", In: of(1, 1, 1), Packs: []api.Pack{{Kind: api.LDense, Weight: api.Binary, K: 1, Rows: []api.Row{row(1, []uint64{0}, []uint64{1})}, Biases: []int64{0}}}}
	writes(t, "the least", least, container(magic,
		api.Chunk{Tag: 1, Body: hexed("01 61 0100 0100 0100 01")}, api.Chunk{Tag: 2, Body: hexed("02 01 0100 00 00 00 00 00 00 00 00 00")},
		api.Chunk{Tag: 3, Body: hexed("01")}, api.Chunk{Tag: 5, Body: hexed("0000000000000000")}))
	writes(t, "edge", edge(), container(magic,
		api.Chunk{Tag: 1, Body: hexed("04 65646765 0200 0200 0100 02")}, api.Chunk{Tag: 2, Body: hexed("01 01 0100 03 03 01 01 01 01 01 01 00")},
		api.Chunk{Tag: 3, Body: hexed("ff ff 03")}, api.Chunk{Tag: 4, Body: hexed("01 0000000000000000")},
		api.Chunk{Tag: 2, Body: hexed("02 01 0200 00 00 00 00 00 00 00 00 00")}, api.Chunk{Tag: 3, Body: hexed("ff 77")}, api.Chunk{Tag: 5, Body: make([]byte, 16)}))
	if b, _ := packed.Encode(tiny()); string(b[:4]) != "hdlp" {
		t.Errorf("P19.2: the first bytes are %q", b[:4])
	}
}
