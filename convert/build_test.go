package convert_test

import (
	"bytes"
	"encoding/hex"
	"fmt"
	"reflect"
	"slices"
	"strings"
	"testing"

	"heddle/api"
	"heddle/convert"
	"heddle/net"
	"heddle/packed"
	"heddle/source"
	"heddle/text"
)

// The greatest sum by its own number, as the document tells it.
const most = 1<<31 - 1

const tinyText = "net tiny\ninput 1 1 3\ndense 2 ternary\nw +0-\nw +++\nbiases 5 -5\nend\n"

const edgeText = "net edge\ninput 2 2 1\nconv 1 3 3 step 1 1 pad 1 1 1 1 border 0 binary\nw + + + + + + + + +\nn 1 0 0 1\ndense 2 binary\nw ++++\nw +-+-\nbiases 0 0\nend\n"

func of(h, w, c int) api.Shape { return api.Shape{H: h, W: w, C: c} }

func count(s api.Shape) int { return s.H * s.W * s.C }

// win is a window: its size, its steps, its borders (Top Left Bottom Right).
func win(r, s, y, x, top, left, bottom, right int) api.Window {
	return api.Window{R: r, S: s, StepY: y, StepX: x, Top: top, Left: left, Bottom: bottom, Right: right}
}

// point is the window of one place.
func point() api.Window { return win(1, 1, 1, 1, 0, 0, 0, 0) }

func fr(num, den int64) api.Frac { return api.Frac{Num: num, Den: den} }

func norm(g, b, m, s api.Frac) api.Norm { return api.Norm{G: g, B: b, M: m, S: s} }

// whole is a norm of whole numbers.
func whole(g, b, m, s int64) api.Norm { return norm(fr(g, 1), fr(b, 1), fr(m, 1), fr(s, 1)) }

// turns are n weights, in turn.
func turns(n int, turn ...int8) []int8 { return slices.Repeat(turn, n/len(turn)+1)[:n] }

func conv(k int, w api.Window, channels int) api.Layer {
	return api.Layer{Kind: api.LConv, Weight: api.Binary, K: k, Win: w, Weights: turns(k*w.R*w.S*channels, 1, -1, -1), Norms: slices.Repeat([]api.Norm{whole(1, 0, 0, 1)}, k)}
}

func dense(k, in int) api.Layer {
	return api.Layer{Kind: api.LDense, Weight: api.Binary, K: k, Weights: turns(k*in, -1, 1, 1, 1, -1), Norms: slices.Repeat([]api.Norm{whole(1, 0, 0, 1)}, k)}
}

func last(k, in int) api.Layer {
	return api.Layer{Kind: api.LDense, Weight: api.Ternary, K: k, Weights: turns(k*in, 0, -1, 1, 1, 0), Biases: make([]int64, k)}
}

func pool(w api.Window) api.Layer { return api.Layer{Kind: api.LPool, Win: w} }

func network(in api.Shape, layers ...api.Layer) api.Net {
	return api.Net{Name: "n", In: in, Layers: layers}
}

func bits(length int, words ...uint64) api.Bits { return api.Bits{Len: length, Words: words} }

// row is one of so many bits, with its words of Sign and of Some.
func row(length int, sign, some []uint64) api.Row {
	return api.Row{Sign: bits(length, sign...), Some: bits(length, some...)}
}

func tiny() api.Net {
	return api.Net{Name: "tiny", In: of(1, 1, 3), Layers: []api.Layer{{Kind: api.LDense, Weight: api.Ternary, K: 2, Weights: []int8{1, 0, -1, 1, 1, 1}, Biases: []int64{5, -5}}}}
}

func tinyModel() api.Model {
	return api.Model{Name: "tiny", In: of(1, 1, 3), Packs: []api.Pack{{Kind: api.LDense, Weight: api.Ternary, K: 2,
		Rows: []api.Row{row(3, []uint64{1}, []uint64{5}), row(3, []uint64{7}, []uint64{7})}, Biases: []int64{5, -5}}}}
}

func edge() api.Net {
	return api.Net{Name: "edge", In: of(2, 2, 1), Layers: []api.Layer{
		{Kind: api.LConv, Weight: api.Binary, K: 1, Win: win(3, 3, 1, 1, 1, 1, 1, 1), Weights: turns(9, 1), Norms: []api.Norm{whole(1, 0, 0, 1)}},
		{Kind: api.LDense, Weight: api.Binary, K: 2, Weights: []int8{1, 1, 1, 1, 1, -1, 1, -1}, Biases: []int64{0, 0}},
	}}
}

func edgeModel() api.Model {
	nine := slices.Repeat([]uint64{1}, 9)
	return api.Model{Name: "edge", In: of(2, 2, 1), Packs: []api.Pack{
		{Kind: api.LConv, Weight: api.Binary, K: 1, Win: win(3, 3, 1, 1, 1, 1, 1, 1), Rows: []api.Row{row(576, nine, slices.Clone(nine))}, Threshes: []api.Thresh{{Mode: api.ModeGE}}},
		{Kind: api.LDense, Weight: api.Binary, K: 2, Rows: []api.Row{row(4, []uint64{15}, []uint64{15}), row(4, []uint64{5}, []uint64{15})}, Biases: []int64{0, 0}},
	}}
}

// mixed has layers of all kinds, norms of all Modes and biases at both ends; its shapes are (4, 3, 2), (3, 4, 2), (2, 2, 2), (1, 1, 3), (2, 3, 2), (1, 1, 2).
func mixed() api.Net {
	return api.Net{Name: "Mixed_-9", In: of(4, 3, 2), Layers: []api.Layer{
		{Kind: api.LConv, Weight: api.Ternary, K: 2, Win: win(2, 3, 2, 1, 1, 0, 2, 3), Border: -1,
			Weights: []int8{1, 0, -1, -1, 0, 0, 0, -1, 1, 1, 1, -1, -1, 1, 0, 0, -1, 0, 1, 0, 0, 1, -1, -1},
			Norms:   []api.Norm{whole(2, 1, 0, 3), norm(fr(-1, 3), fr(0, 5), fr(601, 2), fr(7, 9))}},
		pool(win(2, 1, 1, 3, 0, 0, 0, 0)),
		{Kind: api.LDense, Weight: api.Binary, K: 3,
			Weights: []int8{1, 1, -1, -1, 1, -1, 1, -1, 1, -1, 1, -1, 1, 1, 1, 1, -1, 1, 1, -1, -1, -1, -1, -1},
			Norms:   []api.Norm{norm(fr(0, 4), fr(-1, 9), fr(5, 1), fr(1, 1)), norm(fr(0, 4), fr(0, 9), fr(5, 1), fr(1, 1)), whole(-1, 0, -most, 1)}},
		{Kind: api.LConv, Weight: api.Binary, K: 2, Win: win(1, 1, 1, 1, 1, 0, 0, 2), Border: 1, Weights: []int8{1, -1, 1, 1, 1, -1},
			Norms: []api.Norm{whole(1, 0, most, 1), norm(fr(3, 3), fr(-1, 2), fr(-most, 1), fr(1, 1))}},
		{Kind: api.LDense, Weight: api.Ternary, K: 2, Weights: append(turns(12, 0, -1, 1), make([]int8, 12)...), Biases: []int64{-2147483635, 2147483635}},
	}}
}

// mixedModel is what mixed packs into, worked out by hand.
func mixedModel() api.Model {
	return api.Model{Name: "Mixed_-9", In: of(4, 3, 2), Packs: []api.Pack{
		{Kind: api.LConv, Weight: api.Ternary, K: 2, Win: win(2, 3, 2, 1, 1, 0, 2, 3), Border: -1, Rows: []api.Row{
			row(384, []uint64{1, 0, 0, 0, 3, 1}, []uint64{1, 3, 0, 2, 3, 3}), // 1 0, -1 -1, 0 0, 0 -1, 1 1, 1 -1
			row(384, []uint64{2, 0, 0, 1, 2, 0}, []uint64{3, 0, 1, 1, 2, 3}), // -1 1, 0 0, -1 0, 1 0, 0 1, -1 -1
		}, Threshes: []api.Thresh{{Mode: api.ModeGE, T: -1}, {Mode: api.ModeLE, T: 300}}},
		{Kind: api.LPool, Win: win(2, 1, 1, 3, 0, 0, 0, 0)},
		{Kind: api.LDense, Weight: api.Binary, K: 3, Rows: []api.Row{
			row(8, []uint64{0x53}, []uint64{0xff}), // 1 1 -1 -1 1 -1 1 -1
			row(8, []uint64{0xf5}, []uint64{0xff}), // 1 -1 1 -1 1 1 1 1
			row(8, []uint64{0x06}, []uint64{0xff}), // -1 1 1 -1 -1 -1 -1 -1
		}, Threshes: []api.Thresh{{Mode: api.ModeMinus}, {Mode: api.ModePlus}, {Mode: api.ModeLE, T: -most}}},
		{Kind: api.LConv, Weight: api.Binary, K: 2, Win: win(1, 1, 1, 1, 1, 0, 0, 2), Border: 1, Rows: []api.Row{
			row(64, []uint64{5}, []uint64{7}), // 1 -1 1
			row(64, []uint64{3}, []uint64{7}), // 1 1 -1
		}, Threshes: []api.Thresh{{Mode: api.ModeGE, T: most}, {Mode: api.ModeGE, T: 1 - most}}},
		{Kind: api.LDense, Weight: api.Ternary, K: 2, Rows: []api.Row{
			row(12, []uint64{0x924}, []uint64{0xdb6}), // 0 -1 1, four times
			row(12, []uint64{0}, []uint64{0}),
		}, Biases: []int64{-2147483635, 2147483635}},
	}}
}

// hexed are the bytes that are written in hex, blanks between them left out.
func hexed(s string) []byte {
	b, err := hex.DecodeString(strings.ReplaceAll(s, " ", ""))
	if err != nil {
		panic(err)
	}
	return b
}

// settled is a model without the difference between nil and empty lists.
func settled(m api.Model) api.Model {
	m.Packs = append([]api.Pack{}, m.Packs...)
	for i, p := range m.Packs {
		p.Rows, p.Threshes, p.Biases = append([]api.Row{}, p.Rows...), append([]api.Thresh{}, p.Threshes...), append([]int64{}, p.Biases...)
		for k, r := range p.Rows {
			p.Rows[k].Sign.Words, p.Rows[k].Some.Words = append([]uint64{}, r.Sign.Words...), append([]uint64{}, r.Some.Words...)
		}
		m.Packs[i] = p
	}
	return m
}

// show is the front of what a network or a model holds.
func show(v any) string {
	s := fmt.Sprintf("%+v", v)
	return s[:min(len(s), 1500)]
}

func same(a, b api.Model) bool { return reflect.DeepEqual(settled(a), settled(b)) }

// sourceOf is the source of a network that may be.
func sourceOf(t *testing.T, n api.Net) []byte {
	t.Helper()
	b, e := source.Encode(n)
	if e != api.OK {
		at, _ := net.Check(n)
		t.Fatalf("the test's own network may not be: %d, %d", at, e)
	}
	return b
}

// becomes: Of, Convert and Text of a network that may be, against the model that it should be; and all that is promised of every model.
func becomes(t *testing.T, what string, n api.Net, want api.Model) {
	t.Helper()
	src := sourceOf(t, n)
	was := net.Clone(n)
	m, at, e := convert.Of(n)
	if e != api.OK || at != 0 || !same(m, want) {
		t.Errorf("P20.1: %s: %d, %d, %s, not %s", what, at, e, show(m), show(want))
		return
	}
	if !net.Equal(n, was) {
		t.Errorf("P20.7: %s: Of changed the network", what)
	}
	if at, e := packed.Check(m); at != 0 || e != api.OK {
		t.Errorf("P20.4: %s: the model may not be: %d, %d", what, at, e)
	}
	file, e := packed.Encode(want)
	if e != api.OK {
		t.Fatalf("the test's own model may not be: %d", e)
	}
	writes(t, what, src, file)
	if back, e := packed.Decode(file); e != api.OK || !same(back, m) {
		t.Errorf("P20.4: %s: read again it is another model: %d", what, e)
	}
	if s, e := text.Print(n); e == api.OK {
		reads(t, what, s, file)
	}
	means(t, what, n, m)
}

// writes: Convert answers these bytes.
func writes(t *testing.T, what string, src, want []byte) {
	t.Helper()
	if b, e := convert.Convert(src); e != api.OK || !bytes.Equal(b, want) {
		t.Errorf("P20.2: %s: Convert = %.300x, %d, not %.300x", what, b, e, want)
	}
}

// reads: Text answers these bytes.
func reads(t *testing.T, what, s string, want []byte) {
	t.Helper()
	if b, line, e := convert.Text(s); e != api.OK || line != 0 || !bytes.Equal(b, want) {
		t.Errorf("P20.3: %s: Text = %.300x, %d, %d, not %.300x", what, b, line, e, want)
	}
}

// unpacked: Of answers this error at this layer, and no model.
func unpacked(t *testing.T, what string, n api.Net, layer int, e api.Errno) {
	t.Helper()
	if m, at, got := convert.Of(n); got != e || at != layer || !same(m, api.Model{}) {
		t.Errorf("P20.1, P20.5: %s: Of = %s, %d, %d, not %d, %d", what, show(m), at, got, layer, e)
	}
}

// unwritten: Convert answers this error, and no bytes.
func unwritten(t *testing.T, what string, src []byte, e api.Errno) {
	t.Helper()
	if b, got := convert.Convert(src); got != e || len(b) != 0 {
		t.Errorf("P20.2, P20.5: %s: Convert = %d bytes, %d, not %d", what, len(b), got, e)
	}
}

// unread: Text answers this error at this line, and no bytes.
func unread(t *testing.T, what, s string, line int, e api.Errno) {
	t.Helper()
	if b, at, got := convert.Text(s); got != e || at != line || len(b) != 0 {
		t.Errorf("P20.3, P20.5: %s: Text = %d bytes, %d, %d, not %d, %d", what, len(b), at, got, line, e)
	}
}
