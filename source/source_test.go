package source_test

import (
	"bytes"
	"encoding/hex"
	"slices"
	"strings"
	"testing"

	"heddle/api"
	"heddle/chunk"
	"heddle/net"
	"heddle/source"
)

// magic is that of a source.
const magic = 0x63727368

// tinySource is the document's.
const tinySource = "68737263020000000dc7dd89010000000c0000004f605ee30474696e79010001000300019d8f32d2030000000d0000005700c719020200610505000000fbffffff87fe98ee"

func fr(num, den int64) api.Frac { return api.Frac{Num: num, Den: den} }

func norm(g, b, m, s api.Frac) api.Norm { return api.Norm{G: g, B: b, M: m, S: s} }

// step is the norm that makes sums from 0 on plus.
func step() api.Norm { return norm(fr(1, 1), fr(0, 1), fr(0, 1), fr(1, 1)) }

// win is a window: its size, its steps, its borders (Top Left Bottom Right).
func win(r, s, y, x, top, left, bottom, right int) api.Window {
	return api.Window{R: r, S: s, StepY: y, StepX: x, Top: top, Left: left, Bottom: bottom, Right: right}
}

func of(h, w, c int) api.Shape { return api.Shape{H: h, W: w, C: c} }

// signs are n weights, in turn.
func signs(n int, turn ...int8) []int8 { return slices.Repeat(turn, n/len(turn)+1)[:n] }

func conv(k int, w api.Window, channels int) api.Layer {
	return api.Layer{Kind: api.LConv, Weight: api.Binary, K: k, Win: w, Weights: signs(k*w.R*w.S*channels, 1, -1, -1), Norms: slices.Repeat([]api.Norm{step()}, k)}
}

func dense(k, in int) api.Layer {
	return api.Layer{Kind: api.LDense, Weight: api.Binary, K: k, Weights: signs(k*in, -1, 1, 1), Norms: slices.Repeat([]api.Norm{step()}, k)}
}

func last(k, in int) api.Layer {
	return api.Layer{Kind: api.LDense, Weight: api.Ternary, K: k, Weights: signs(k*in, 0, -1, 1, 1, 0), Biases: make([]int64, k)}
}

func pool(w api.Window) api.Layer { return api.Layer{Kind: api.LPool, Win: w} }

func network(in api.Shape, layers ...api.Layer) api.Net {
	return api.Net{Name: "n", In: in, Layers: layers}
}

func tiny() api.Net {
	return api.Net{Name: "tiny", In: of(1, 1, 3), Layers: []api.Layer{
		{Kind: api.LDense, Weight: api.Ternary, K: 2, Weights: []int8{1, 0, -1, 1, 1, 1}, Biases: []int64{5, -5}},
	}}
}

// mixed has layers of all kinds; its shapes are (4, 3, 2), (3, 4, 2), (2, 2, 2), (1, 1, 3), (2, 3, 2), (1, 1, 2).
func mixed() api.Net {
	one := fr(1, 1)
	return api.Net{Name: "Mixed_-9", In: of(4, 3, 2), Layers: []api.Layer{
		{Kind: api.LConv, Weight: api.Ternary, K: 2, Win: win(2, 3, 2, 1, 1, 0, 2, 3), Border: -1,
			Weights: []int8{1, 0, -1, -1, 0, 0, 0, -1, 1, 1, 1, -1, -1, 1, 0, 0, -1, 0, 1, 0, 0, 1, -1, -1},
			Norms:   []api.Norm{norm(one, fr(0, 1), fr(-3, 2), fr(4, 2)), norm(fr(-7, 1048576), fr(2147483647, 1), fr(0, 5), fr(1, 3))}},
		pool(win(2, 1, 1, 3, 0, 0, 0, 0)),
		{Kind: api.LDense, Weight: api.Binary, K: 3,
			Weights: []int8{1, 1, -1, -1, 1, -1, 1, -1, 1, -1, 1, -1, 1, 1, 1, 1, -1, 1, 1, -1, -1, -1, -1, -1},
			Norms:   []api.Norm{norm(fr(0, 1), fr(-2147483647, 2), one, fr(2147483647, 1)), norm(fr(6, 4), one, one, one), norm(one, one, one, one)}},
		{Kind: api.LConv, Weight: api.Binary, K: 2, Win: win(1, 1, 1, 1, 1, 0, 0, 2), Border: 1, Weights: []int8{1, -1, 1, 1, 1, -1}, Norms: []api.Norm{step(), step()}},
		{Kind: api.LDense, Weight: api.Ternary, K: 2, Weights: append(signs(12, 0, -1, 1), make([]int8, 12)...), Biases: []int64{-2147483635, 2147483635}},
	}}
}

// mixedBodies are what the form says of mixed, worked out by hand.
func mixedBodies() []api.Chunk {
	cs := []api.Chunk{
		{Tag: 1, Body: hexed("08 4d697865645f2d39 0400 0300 0200 05")},
		{Tag: 2, Body: hexed("02 0200 02 03 02 01 01 00 02 03 ff a1 80 95 06 12 a4" + // weights
			"01000000 01000000 00000000 01000000 fdffffff 02000000 04000000 02000000" +
			"f9ffffff 00001000 ffffff7f 01000000 00000000 05000000 01000000 03000000")},
		{Tag: 4, Body: hexed("02 01 01 03 00 00 00 00")},
		{Tag: 3, Body: hexed("01 0300 a5 99 99 55 96 aa" +
			"00000000 01000000 01000080 02000000 01000000 01000000 ffffff7f 01000000" +
			"06000000 04000000 01000000 01000000 01000000 01000000 01000000 01000000" +
			"01000000 01000000 01000000 01000000 01000000 01000000 01000000 01000000")},
		{Tag: 2, Body: hexed("01 0200 01 01 01 01 01 00 00 02 01 59 09" + strings.Repeat("01000000 01000000 00000000 01000000 00000000 01000000 01000000 01000000", 2))},
		{Tag: 3, Body: hexed("02 0200 18 86 61 00 00 00 0d000080 f3ffff7f")},
	}
	return cs
}

// hexed are the bytes that are written in hex, blanks between them left out.
func hexed(s string) []byte {
	b, err := hex.DecodeString(strings.ReplaceAll(s, " ", ""))
	if err != nil {
		panic(err)
	}
	return b
}

// wrapped is the container of chunks, under right sums.
func wrapped(m uint32, cs ...api.Chunk) []byte {
	b, e := chunk.Write(m, cs...)
	if e != api.OK {
		panic("the test's own chunks have no container")
	}
	return b
}

// writes: Encode answers want, and Decode the network again.
func writes(t *testing.T, what string, n api.Net, want []byte) {
	t.Helper()
	if b, e := source.Encode(n); e != api.OK || !bytes.Equal(b, want) {
		t.Errorf("P9.1: %s: %d, %.300x, not %.300x", what, e, b, want)
	}
	m, e := source.Decode(want)
	if e != api.OK || !net.Equal(m, n) {
		t.Errorf("P9.2: %s: %d, %.300x", what, e, want)
	}
	if b, e := source.Encode(m); e != api.OK || !bytes.Equal(b, want) {
		t.Errorf("P9.3: %s: written, read and written: %d, %.300x, not %.300x", what, e, b, want)
	}
}

// refused: Decode answers e, and no network.
func refused(t *testing.T, what string, b []byte, e api.Errno) {
	t.Helper()
	if n, got := source.Decode(b); got != e || n.Name != "" || n.In != (api.Shape{}) || n.Layers != nil {
		t.Errorf("P9.2: %s: %d, not %d; the name %q", what, got, e, n.Name)
	}
}

// unwritten: Encode answers e, and no bytes.
func unwritten(t *testing.T, what string, n api.Net, e api.Errno) {
	t.Helper()
	if _, is := net.Check(n); is != e {
		t.Errorf("the test's own network %s: %d, not %d", what, is, e)
	}
	if b, got := source.Encode(n); got != e || b != nil {
		t.Errorf("P9.1: %s: %d bytes, %d, not %d", what, len(b), got, e)
	}
}

func TestExamplesOfTheDocument(t *testing.T) {
	b := hexed(tinySource)
	writes(t, "tiny", tiny(), b)
	cs := []api.Chunk{{Tag: 1, Body: hexed("0474696e7901000100030001")}, {Tag: 3, Body: hexed("020200610505000000fbffffff")}}
	if !bytes.Equal(wrapped(magic, cs...), b) {
		t.Error("the document's chunks are not the document's source")
	}
	unwritten(t, "one that may not be", api.Net{}, api.ErrName)
	refused(t, "no bytes", nil, api.ErrShort)
	refused(t, "without its last byte", b[:len(b)-1], api.ErrShort)
	for bit := range 8 {
		refused(t, "with its last byte turned", other(b, len(b)-1, b[len(b)-1]^1<<bit), api.ErrSum)
	}
	refused(t, "no chunks", wrapped(magic), api.ErrSource)
	refused(t, "another magic", wrapped(magic+1, cs...), api.ErrTag)
	refused(t, "the second once more", wrapped(magic, cs[0], cs[1], cs[1]), api.ErrSource)
	for what, body := range map[string]string{
		"a spare bit": "020200611505000000fbffffff", "a weight 3": "020200630505000000fbffffff",
		"Binary with a weight 0": "010200610505000000fbffffff", "a byte more": "020200610505000000fbffffff00",
	} {
		refused(t, what, wrapped(magic, cs[0], api.Chunk{Tag: 3, Body: hexed(body)}), api.ErrSource)
	}
	refused(t, "2^24 + 1 bytes", make([]byte, 1<<24+1), api.ErrLong)
}

// other is bytes with one of them another one.
func other(b []byte, at int, x byte) []byte {
	b = slices.Clone(b)
	b[at] = x
	return b
}

// TestWrittenOut: sources that were worked out by hand.
func TestWrittenOut(t *testing.T) {
	writes(t, "mixed", mixed(), wrapped(magic, mixedBodies()...))
	least := api.Net{Name: "a", In: of(1, 1, 1), Layers: []api.Layer{{Kind: api.LDense, Weight: api.Binary, K: 1, Weights: []int8{-1}, Biases: []int64{0}}}}
	writes(t, "the least", least, wrapped(magic, api.Chunk{Tag: 1, Body: hexed("01 61 0100 0100 0100 01")}, api.Chunk{Tag: 3, Body: hexed("01 0100 02 00000000")}))
	if b := wrapped(magic); string(b[:4]) != "hsrc" {
		t.Errorf("the magic's bytes are %q", b[:4])
	}
}

// TestWeights: one to nine weights of a row, each place with each weight, and what is left of the last byte.
func TestWeights(t *testing.T) {
	for count := range 9 {
		for at := range count + 1 {
			for pair, w := range []int8{0, 1, -1} {
				n := network(of(1, 1, count+1), last(1, count+1))
				n.Layers[0].Weights = make([]int8, count+1)
				n.Layers[0].Weights[at] = w
				body := slices.Concat([]byte{2, 1, 0}, make([]byte, (count+4)/4), make([]byte, 4))
				body[3+at/4] = byte(pair << (at % 4 * 2))
				writes(t, "weights", n, wrapped(magic, api.Chunk{Tag: 1, Body: []byte{1, 'n', 1, 0, 1, 0, byte(count + 1), 0, 1}}, api.Chunk{Tag: 3, Body: body}))
			}
		}
	}
}

// alike holds Encode and Decode of a network that may be against the second reading of the form.
func alike(t *testing.T, what string, n api.Net) {
	t.Helper()
	if at, e := net.Check(n); e != api.OK {
		t.Fatalf("the test's own network %s may not be: layer %d, %d", what, at, e)
	}
	b := laid(n)
	if len(b) > api.MaxBytes {
		t.Errorf("P9.1: %s has %d bytes", what, len(b))
	}
	writes(t, what, n, b)
}

// TestEdges: each number at its least and at its greatest.
func TestEdges(t *testing.T) {
	point := win(1, 1, 1, 1, 0, 0, 0, 0)
	for _, in := range []api.Shape{of(1, 1, 1), of(4096, 1, 1), of(1, 4096, 1), of(1, 1, 4096), of(257, 255, 256), of(256, 256, 255)} {
		alike(t, "an input", network(in, last(1, in.H*in.W*in.C)))
	}
	alike(t, "the greatest input", network(of(4096, 4096, 1), conv(1, win(15, 15, 15, 15, 0, 0, 0, 0), 1), last(1, 273*273)))
	for _, k := range []int{1, 2, 255, 256, 257, 4095, 4096} {
		alike(t, "outputs", network(of(1, 1, 2), dense(k, 2), last(3, k)))
		alike(t, "outputs of a convolution", network(of(1, 1, 2), conv(k, point, 2), last(1, k)))
		alike(t, "outputs of the last", network(of(1, 1, 2), last(k, 2)))
	}
	for _, w := range []api.Window{point, win(15, 1, 1, 1, 14, 0, 0, 0), win(1, 15, 1, 1, 0, 14, 0, 0), win(1, 1, 15, 1, 0, 0, 14, 0), win(1, 1, 1, 15, 0, 0, 0, 14), win(15, 15, 15, 15, 14, 14, 14, 14)} {
		for border := -1; border <= 1; border++ {
			l := conv(2, w, 1)
			l.Border = border
			if w == point {
				l.Border = 0
			}
			out := of((1+w.Top+w.Bottom-w.R)/w.StepY+1, (1+w.Left+w.Right-w.S)/w.StepX+1, 2)
			alike(t, "a window", network(of(1, 1, 1), l, last(1, out.H*out.W*2)))
		}
		w.Top, w.Left, w.Bottom, w.Right = 0, 0, 0, 0
		alike(t, "a pool's window", network(of(15, 15, 1), conv(1, point, 1), pool(w), last(1, ((15-w.R)/w.StepY+1)*((15-w.S)/w.StepX+1))))
	}
	for _, num := range []int64{-api.MaxSum, -65536, -256, -1, 0, 1, 127, 128, 255, 256, 32768, 65535, 1 << 24, 1 << 30, api.MaxSum} {
		for _, den := range []int64{1, 255, 256, 65535, 65536, api.MaxDen} {
			n := network(of(1, 1, 1), dense(4, 1), conv(1, point, 4), last(2, 1))
			f := fr(num, den)
			n.Layers[0].Norms = []api.Norm{{G: f, B: fr(1, 2), M: fr(3, 4), S: fr(5, 6)}, {G: fr(1, 2), B: f, M: fr(3, 4), S: fr(5, 6)}, {G: fr(1, 2), B: fr(3, 4), M: f, S: fr(5, 6)}, {G: fr(1, 2), B: fr(3, 4), M: fr(5, 6), S: fr(max(num, 1), den)}}
			n.Layers[1].Norms = []api.Norm{{G: f, B: f, M: f, S: fr(max(num, 1), den)}}
			bias := min(max(num, 1-api.MaxSum), api.MaxSum-1)
			n.Layers[2].Biases = []int64{bias, -bias}
			alike(t, "numbers", n)
		}
	}
}

func TestNames(t *testing.T) {
	n := tiny()
	const letters = "abcdefghijklmnopqrstuvwxyzABCDEFGHIJKLMNOPQRSTUVWXYZ0123456789_-"
	for size := 1; size <= 32; size++ {
		for _, name := range []string{letters[:size], letters[64-size:], strings.Repeat("-", size)} {
			n.Name = name
			alike(t, "named "+name, n)
		}
	}
	head := func(name string) []byte {
		n.Name = name
		return laid(n)
	}
	for b := range 256 {
		name := string([]byte{'x', byte(b)})
		if strings.Contains(letters, name[1:]) {
			writes(t, "named "+name, api.Net{Name: name, In: n.In, Layers: n.Layers}, head(name))
			continue
		}
		refused(t, "named "+name, head(name), api.ErrSource)
		unwritten(t, "named "+name, n, api.ErrName)
	}
	for _, size := range []int{0, 33, 127, 128, 255} {
		refused(t, "a name of another length", head(strings.Repeat("a", size)), api.ErrSource)
		unwritten(t, "a name of another length", n, api.ErrName)
	}
	for _, size := range []int{256 + 4, 1 << 20} {
		n.Name = strings.Repeat("a", size)
		unwritten(t, "a long name", n, api.ErrName)
	}
}

// TestLayers: one layer to 64, of each kind where it may stand; none, and more.
func TestLayers(t *testing.T) {
	for count := range 64 {
		n := network(of(2, 1, 1))
		for i := range count {
			n.Layers = append(n.Layers, []api.Layer{dense(2, 2), conv(2, win(1, 1, 1, 1, 0, 0, 0, 0), 2), pool(win(1, 1, 1, 1, 0, 0, 0, 0))}[i%3])
		}
		n.Layers = append(n.Layers, last(2, 2))
		alike(t, "layers", n)
	}
	for _, count := range []int{0, 65, 255} {
		n := network(of(1, 1, 2), slices.Repeat([]api.Layer{dense(2, 2)}, max(count-1, 0))...)
		if count > 0 {
			n.Layers = append(n.Layers, last(2, 2))
		}
		refused(t, "another number of layers", laid(n), api.ErrSource)
		unwritten(t, "another number of layers", n, api.ErrLayers)
	}
	// A byte tells the layers: 257 and 320 look like 1 and 64 there.
	for _, count := range []int{256, 257, 320, 1023} {
		n := network(of(1, 1, 2), append(slices.Repeat([]api.Layer{dense(2, 2)}, count-1), last(2, 2))...)
		refused(t, "more layers than a byte tells", laid(n), api.ErrSource)
		unwritten(t, "more layers than a byte tells", n, api.ErrLayers)
	}
	n := network(of(1, 1, 2), append(slices.Repeat([]api.Layer{dense(2, 2)}, 1023), last(2, 2))...)
	unwritten(t, "1024 layers", n, api.ErrLayers)
}

// TestGreat: networks with as much as may be of something.
func TestGreat(t *testing.T) {
	long := norm(fr(-api.MaxSum, api.MaxDen), fr(-api.MaxSum, api.MaxDen-1), fr(api.MaxSum, api.MaxDen), fr(api.MaxSum, api.MaxDen-2))
	square := network(of(1, 1, 512), slices.Repeat([]api.Layer{dense(512, 512)}, 63)...)
	square.Layers = append(square.Layers, last(512, 512)) // 64 layers, 2^24 weights
	norms := network(of(1, 1, 1))
	for range 31 {
		norms.Layers = append(norms.Layers, dense(4096, 1), dense(1, 4096))
		norms.Layers[len(norms.Layers)-2].Norms[0], norms.Layers[len(norms.Layers)-2].Norms[4095] = long, long
	}
	norms.Layers = append(norms.Layers, dense(1000, 1), last(4096, 1000))
	for what, n := range map[string]api.Net{
		"64 layers and 2^24 weights":    square,
		"2^24 weights of one layer":     network(of(1, 1, 4096), last(4096, 4096)),
		"2^24 weights of a convolution": network(of(1, 1, 4096), conv(4095, win(1, 1, 1, 1, 0, 0, 0, 0), 4096), last(1, 4095)),
		"norms":                         norms,
	} {
		alike(t, what, n)
	}
}
