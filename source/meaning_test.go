package source_test

import (
	"bytes"
	"encoding/binary"
	"hash/crc32"
	"slices"
	"strings"
	"testing"

	"heddle/api"
	"heddle/chunk"
	"heddle/net"
	"heddle/source"
)

// A second reading of the chapter. laid writes the form of any network, whether it may be or not; told reads bytes as a network without asking whether they are one, and holds laid of it against the bytes.

var little = binary.LittleEndian

func laid(n api.Net) []byte { return container(magic, chunksOf(n)...) }

// container is the form of doc/08, with the library's sums.
func container(m uint32, cs ...api.Chunk) []byte {
	b := summed(little.AppendUint32(little.AppendUint32(nil, m), uint32(len(cs))))
	for _, c := range cs {
		b = append(b, summed(little.AppendUint32(little.AppendUint32(nil, c.Tag), uint32(len(c.Body))))...)
		b = append(b, summed(slices.Clone(c.Body))...)
	}
	return b
}

func summed(b []byte) []byte { return little.AppendUint32(b, crc32.ChecksumIEEE(b)) }

func chunksOf(n api.Net) []api.Chunk {
	head := append([]byte{byte(len(n.Name))}, n.Name...)
	for _, side := range []int{n.In.H, n.In.W, n.In.C} {
		head = little.AppendUint16(head, uint16(side))
	}
	cs := []api.Chunk{{Tag: 1, Body: append(head, byte(len(n.Layers)))}}
	for _, l := range n.Layers {
		cs = append(cs, chunkOf(l))
	}
	return cs
}

func chunkOf(l api.Layer) api.Chunk {
	var body []byte
	if l.Kind != api.LPool {
		body = little.AppendUint16([]byte{byte(l.Weight)}, uint16(l.K))
	}
	if w := l.Win; l.Kind != api.LDense {
		body = append(body, byte(w.R), byte(w.S), byte(w.StepY), byte(w.StepX), byte(w.Top), byte(w.Left), byte(w.Bottom), byte(w.Right))
	}
	if l.Kind == api.LConv {
		body = append(body, byte(l.Border))
	}
	for four := range slices.Chunk(l.Weights, 4) {
		x := 0
		for i, w := range four {
			x += int(w+3) % 3 << (2 * i)
		}
		body = append(body, byte(x))
	}
	for _, n := range l.Norms {
		for _, f := range []api.Frac{n.G, n.B, n.M, n.S} {
			body = little.AppendUint32(little.AppendUint32(body, uint32(f.Num)), uint32(f.Den))
		}
	}
	for _, x := range l.Biases {
		body = little.AppendUint32(body, uint32(x))
	}
	return api.Chunk{Tag: map[int]uint32{api.LConv: 2, api.LDense: 3, api.LPool: 4}[l.Kind], Body: body}
}

// cursor takes bytes from the front, and panics where there are none.
type cursor []byte

func (c *cursor) take(n int) []byte {
	b := (*c)[:n:n]
	*c = (*c)[n:]
	return b
}

func (c *cursor) byte() int { return int(c.take(1)[0]) }

func (c *cursor) two() int { return int(little.Uint16(c.take(2))) }

func (c *cursor) four() int64 { return int64(int32(little.Uint32(c.take(4)))) }

func (c *cursor) frac() api.Frac {
	num := c.four()
	return fr(num, int64(little.Uint32(c.take(4))))
}

func (c *cursor) window() api.Window {
	b := c.take(8)
	return win(int(b[0]), int(b[1]), int(b[2]), int(b[3]), int(b[4]), int(b[5]), int(b[6]), int(b[7]))
}

func (c *cursor) weights(n int) []int8 {
	var list []int8
	for _, x := range c.take((n + 3) / 4) {
		list = append(list, int8((x&3+1)%3)-1, int8((x>>2&3+1)%3)-1, int8((x>>4&3+1)%3)-1, int8((x>>6+1)%3)-1)
	}
	return list[:n]
}

// layer is one that stands behind what comes in, and its output's shape.
func (c *cursor) layer(tag uint32, in api.Shape, end bool) (api.Layer, api.Shape) {
	l := api.Layer{Kind: map[uint32]int{2: api.LConv, 3: api.LDense, 4: api.LPool}[tag]}
	out, fan := of(1, 1, 0), in.H*in.W*in.C
	if l.Kind != api.LPool {
		l.Weight, l.K = c.byte(), c.two()
		out.C = l.K
	}
	if l.Kind != api.LDense {
		w := c.window()
		l.Win, fan = w, w.R*w.S*in.C
		out.H, out.W = (in.H+w.Top+w.Bottom-w.R)/w.StepY+1, (in.W+w.Left+w.Right-w.S)/w.StepX+1
	}
	if l.Kind == api.LPool {
		out.C = in.C
		return l, out
	}
	if l.Kind == api.LConv {
		l.Border = int(int8(c.byte()))
	}
	l.Weights = c.weights(l.K * fan)
	for range l.K {
		if end {
			l.Biases = append(l.Biases, c.four())
		} else {
			l.Norms = append(l.Norms, norm(c.frac(), c.frac(), c.frac(), c.frac()))
		}
	}
	return l, out
}

// told is what bytes should be read as.
func told(b []byte) (n api.Net, e api.Errno) {
	if len(b) > 1<<24 {
		return api.Net{}, api.ErrLong
	}
	cs, e := chunk.Read(magic, b)
	if e != api.OK {
		return api.Net{}, e
	}
	defer func() {
		if recover() != nil {
			n, e = api.Net{}, api.ErrSource
		}
	}()
	c := cursor(cs[0].Body)
	n.Name = string(c.take(c.byte()))
	n.In = of(c.two(), c.two(), c.two())
	in := n.In
	for i := range c.byte() {
		next := cs[1+i]
		body := cursor(next.Body)
		var l api.Layer
		l, in = body.layer(next.Tag, in, i == len(cs)-2)
		n.Layers = append(n.Layers, l)
	}
	if _, fault := net.Check(n); fault != api.OK || !bytes.Equal(laid(n), b) {
		return api.Net{}, api.ErrSource
	}
	return n, api.OK
}

// against holds Decode against the second reading, and what it answers against Encode.
func against(t *testing.T, b []byte) api.Errno {
	t.Helper()
	want, e := told(b)
	n, got := source.Decode(b)
	if got != e || !net.Equal(n, want) {
		t.Errorf("P9.2: %.600x: %d, not %d\n%+v\n%+v", b, got, e, n, want)
	}
	if got != api.OK {
		return got
	}
	if again, e := source.Encode(n); e != api.OK || !bytes.Equal(again, b) {
		t.Errorf("P9.3: %.600x is read and written as %.600x, %d", b, again, e)
	}
	return got
}

// dice gives numbers that look like any, the same ones in every run of the tests.
type dice uint64

// roll is a number from least to most.
func (d *dice) roll(least, most int) int {
	*d = *d*6364136223846793005 + 1442695040888963407
	return least + int(uint64(*d)>>33)%(most-least+1)
}

func one[T any](d *dice, list []T) T { return list[d.roll(0, len(list)-1)] }

// frac is a fraction that may be.
func (d *dice) frac(least int64) api.Frac {
	return fr(max(least, one(d, []int64{0, 1, -1, 7, -12, 2147483647, -2147483647, int64(d.roll(-99999, 99999))})), one(d, []int64{1, 1, 2, 1048576, int64(d.roll(1, 99999))}))
}

// layer is one that may stand behind what comes in, and its output's shape.
func (d *dice) layer(in api.Shape, begins bool) (api.Layer, api.Shape) {
	l := api.Layer{Kind: d.roll(1, 3), Weight: d.roll(1, 2), K: d.roll(1, 4)}
	if begins && l.Kind == api.LPool {
		l.Kind = api.LConv
	}
	if l.Kind == api.LPool {
		l.Weight, l.K = 0, 0
		l.Win = win(d.roll(1, min(3, in.H)), d.roll(1, min(3, in.W)), d.roll(1, 15), d.roll(1, 15), 0, 0, 0, 0)
		return l, of((in.H-l.Win.R)/l.Win.StepY+1, (in.W-l.Win.S)/l.Win.StepX+1, in.C)
	}
	fanIn, out := in.H*in.W*in.C, of(1, 1, l.K)
	if l.Kind == api.LConv {
		w := win(d.roll(1, min(4, in.H)), d.roll(1, min(4, in.W)), d.roll(1, 3), d.roll(1, 3), d.roll(0, 2), d.roll(0, 2), d.roll(0, 2), d.roll(0, 2))
		if w.Top+w.Left+w.Bottom+w.Right > 0 {
			l.Border = d.roll(-1, 1)
		}
		l.Win, fanIn, out = w, w.R*w.S*in.C, of((in.H+w.Top+w.Bottom-w.R)/w.StepY+1, (in.W+w.Left+w.Right-w.S)/w.StepX+1, l.K)
	}
	for range l.K * fanIn {
		l.Weights = append(l.Weights, one(d, [][]int8{api.Binary: {1, -1}, api.Ternary: {1, -1, 0}}[l.Weight]))
	}
	for range l.K {
		l.Norms = append(l.Norms, norm(d.frac(-1<<31), d.frac(-1<<31), d.frac(-1<<31), d.frac(1)))
	}
	return l, out
}

// network is one of one to six layers.
func (d *dice) network() api.Net {
	in := of(d.roll(1, 6), d.roll(1, 6), d.roll(1, 4))
	n := api.Net{Name: one(d, []string{"a", "net", "end", "-", "_0", strings.Repeat("Zz9-", 8)}), In: in}
	for i := range d.roll(0, 5) {
		var l api.Layer
		l, in = d.layer(in, i == 0)
		n.Layers = append(n.Layers, l)
	}
	for {
		l, _ := d.layer(in, true)
		if l.Kind != api.LDense {
			continue
		}
		l.Norms = nil
		for range l.K {
			l.Biases = append(l.Biases, int64(one(d, []int{0, 1, -1, 2147000000, -2147000000, d.roll(-99999, 99999)})))
		}
		n.Layers = append(n.Layers, l)
		return n
	}
}

// TestThereAndBack: networks of all sorts, written and read.
func TestThereAndBack(t *testing.T) {
	d := dice(9)
	for range 3000 {
		n := d.network()
		alike(t, "any", n)
		against(t, laid(n))
	}
}

// spoil changes chunks in any places: bytes, ends, Tags, order.
func (d *dice) spoil(cs []api.Chunk) []api.Chunk {
	if len(cs) == 0 {
		return cs
	}
	at := d.roll(0, len(cs)-1)
	body := slices.Clone(cs[at].Body)
	spot := d.roll(0, len(body))
	x := byte(one(d, []int{0, 1, 2, 3, 4, 5, 14, 15, 16, 63, 64, 127, 128, 254, 255, d.roll(0, 255)}))
	switch d.roll(0, 11) {
	default: // another byte
		if spot < len(body) {
			body[spot] = x
		}
	case 0:
		if spot < len(body) {
			body[spot] ^= 1 << d.roll(0, 7)
		}
	case 1: // a byte more
		body = slices.Insert(body, spot, x)
	case 2: // a byte less
		body = slices.Delete(body, max(spot-1, 0), spot)
	case 3:
		body = body[:spot]
	case 4:
		cs = slices.Clone(cs)
		cs[at].Tag = uint32(d.roll(0, 5))
	case 5: // a chunk less
		return slices.Delete(slices.Clone(cs), at, at+1)
	case 6: // twice
		return slices.Insert(slices.Clone(cs), at, cs[at])
	case 7:
		cs = slices.Clone(cs)
		other := d.roll(0, len(cs)-1)
		cs[at], cs[other] = cs[other], cs[at]
		return cs
	}
	cs = slices.Clone(cs)
	cs[at].Body = body
	return cs
}

// TestAnyChunks spoils good chunks, under right sums.
func TestAnyChunks(t *testing.T) {
	d := dice(99)
	good := 0
	for range 40000 {
		cs := chunksOf(one(&d, []api.Net{tiny(), mixed(), d.network()}))
		for range d.roll(1, 2) {
			cs = d.spoil(cs)
		}
		if against(t, container(magic, cs...)) == api.OK {
			good++
		}
	}
	if good < 1000 || good > 39000 {
		t.Errorf("the test's own chunks: %d of 40000 are a network's", good)
	}
}

// TestEveryByteOfTheChunks puts every byte at every place of some chunks, under right sums.
func TestEveryByteOfTheChunks(t *testing.T) {
	small := network(of(2, 2, 1), conv(1, win(1, 2, 1, 1, 0, 1, 0, 0), 1), pool(win(2, 1, 1, 1, 0, 0, 0, 0)), dense(1, 2), last(1, 1))
	for _, n := range []api.Net{tiny(), small, mixed()} {
		cs := chunksOf(n)
		for i := range cs {
			body := cs[i].Body
			for at := range body {
				for x := range 256 {
					cs[i].Body = other(body, at, byte(x))
					against(t, container(magic, cs...))
				}
			}
			for at := range len(body) + 1 {
				cs[i].Body = body[:at]
				against(t, container(magic, cs...))
				cs[i].Body = body[at:]
				against(t, container(magic, cs...))
				cs[i].Body = slices.Insert(slices.Clone(body), at, 0)
				against(t, container(magic, cs...))
			}
			cs[i].Body = body
		}
	}
}

// TestAnyBytes: bytes that are no container's, and containers with bytes that are none of a network's.
func TestAnyBytes(t *testing.T) {
	d := dice(7)
	some := func(n int) []byte {
		b := make([]byte, n)
		for i := range b {
			b[i] = byte(one(&d, []int{0, 1, 2, 3, d.roll(0, 255)}))
		}
		return b
	}
	for range 20000 {
		against(t, some(d.roll(0, 80)))
		cs := []api.Chunk{{Tag: 1, Body: one(&d, [][]byte{some(d.roll(0, 20)), hexed("01 61 0100 0100 0100 01"), hexed("01 61 0200 0300 0100 02")})}}
		for range d.roll(0, 3) {
			cs = append(cs, api.Chunk{Tag: uint32(d.roll(0, 5)), Body: some(d.roll(0, 60))})
		}
		against(t, container(magic, cs...))
	}
}
