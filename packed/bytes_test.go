package packed_test

import (
	"bytes"
	"runtime"
	"slices"
	"strings"
	"testing"

	"heddle/api"
	"heddle/packed"
)

// TestWeights: one to nine weights in all, of one output and of several: each place with each weight, and what is left of the last byte.
func TestWeights(t *testing.T) {
	for count := 1; count <= 9; count++ {
		for k := 1; k <= count; k++ {
			if count%k != 0 {
				continue
			}
			for at := range count {
				for w, pair := range map[int8]byte{0: 0, -1: 1, 1: 3} {
					weights := make([]int8, count)
					weights[at] = w
					m := model(of(1, 1, count/k), last(k, count/k))
					m.Packs[0].Rows = nil
					for one := range slices.Chunk(weights, count/k) {
						m.Packs[0].Rows = append(m.Packs[0].Rows, spread(count/k, 0, one))
					}
					body := make([]byte, (count+3)/4)
					body[at/4] = pair << (at % 4 * 2)
					writes(t, "weights", m, container(magic,
						api.Chunk{Tag: 1, Body: []byte{1, 'm', 1, 0, 1, 0, byte(count / k), 0, 1}},
						api.Chunk{Tag: 2, Body: []byte{2, 2, byte(k), 0, 0, 0, 0, 0, 0, 0, 0, 0, 0}},
						api.Chunk{Tag: 3, Body: body}, api.Chunk{Tag: 5, Body: make([]byte, 8*k)}))
				}
			}
		}
	}
}

// TestEdges: each number of a layer at its least and at its greatest.
func TestEdges(t *testing.T) {
	for _, k := range []int{1, 2, 255, 256, 257, 4095, 4096} {
		alike(t, "outputs", model(of(1, 1, 2), dense(k, 2), last(3, k)))
		alike(t, "outputs of a convolution", model(of(1, 1, 2), conv(k, point(), 2), last(1, k)))
		alike(t, "outputs of the last", model(of(1, 1, 2), last(k, 2)))
	}
	for _, w := range []api.Window{point(), win(15, 1, 1, 1, 14, 0, 0, 0), win(1, 15, 1, 1, 0, 14, 0, 0), win(1, 1, 15, 1, 0, 0, 14, 0), win(1, 1, 1, 15, 0, 0, 0, 14), win(15, 15, 15, 15, 14, 14, 14, 14)} {
		for border := -1; border <= 1; border++ {
			p := conv(2, w, 3)
			if p.Border = border; w == point() {
				p.Border = 0
			}
			out := outOf(p, of(1, 1, 3))
			alike(t, "a window", model(of(1, 1, 3), p, last(1, out.H*out.W*2)))
		}
		w.Top, w.Left, w.Bottom, w.Right = 0, 0, 0, 0
		out := outOf(pool(w), of(15, 15, 1))
		alike(t, "a pool's window", model(of(15, 15, 1), conv(1, point(), 1), pool(w), last(1, out.H*out.W)))
	}
	for _, bias := range []int64{0, 1, -1, 127, 128, 255, 256, -256, 65536, 1 << 24, 1 << 30, most - 1, 1 - most} {
		m := model(of(1, 1, 1), dense(1, 1), last(2, 1))
		m.Packs[1].Biases = []int64{bias, -bias}
		alike(t, "biases", m)
	}
	for _, bias := range []int64{most, -most} {
		m := model(of(1, 1, 1), dense(1, 1), last(2, 1))
		m.Packs[1].Biases[1] = bias
		checks(t, "a bias", m, 1, api.ErrReach)
		refused(t, "a bias", laid(m), api.ErrPacked)
	}
	for _, x := range []api.Thresh{{Mode: 1, T: 1 - most}, {Mode: 1, T: -1}, {Mode: 1, T: most}, {Mode: 2, T: -most}, {Mode: 2, T: 256}, {Mode: 2, T: most - 1}, {Mode: 3}, {Mode: 4}} {
		m := model(of(1, 1, 1), dense(2, 1), conv(1, point(), 2), last(1, 1))
		m.Packs[0].Threshes[1], m.Packs[1].Threshes[0] = x, x
		alike(t, "thresholds", m)
	}
}

// TestEveryByteOfTheChunks puts every byte at every place of some chunks, under right sums, and cuts and lengthens them at every place.
func TestEveryByteOfTheChunks(t *testing.T) {
	small := model(of(2, 2, 1), conv(1, win(1, 2, 1, 1, 0, 1, 0, 0), 1), pool(win(2, 1, 1, 1, 0, 0, 0, 0)), dense(1, 2), last(1, 1))
	good := 0
	for _, m := range []api.Model{tiny(), small, edge(), mixed()} {
		cs := chunksOf(m)
		for i := range cs {
			body := cs[i].Body
			for at := range body {
				for x := range 256 {
					cs[i].Body = other(body, at, byte(x))
					if against(t, container(magic, cs...)) == api.OK {
						good++
					}
				}
			}
			for at := range len(body) + 1 {
				cs[i].Body = body[:at]
				against(t, container(magic, cs...))
				cs[i].Body = body[at:]
				against(t, container(magic, cs...))
				cs[i].Body = slices.Insert(slices.Clone(body), at, 0)
				against(t, container(magic, cs...))
			}
			cs[i].Body = body
		}
	}
	if good < 1000 {
		t.Errorf("the test's own chunks: %d are a model's", good)
	}
}

// other is bytes with one of them another one.
func other(b []byte, at int, x byte) []byte {
	b = slices.Clone(b)
	b[at] = x
	return b
}

// TestFourWeightsAByte: all bytes of weights, of a Binary layer and of a Ternary one, all of which or but one of which is used.
func TestFourWeightsAByte(t *testing.T) {
	for x := range 256 {
		for used := 1; used <= 4; used++ {
			for _, weight := range []int{api.Binary, api.Ternary} {
				good, want := true, []int8(nil)
				for i := range 4 {
					pair := x >> (2 * i) & 3
					good = good && (i >= used && pair == 0 || i < used && pair != 2 && (pair > 0 || weight == api.Ternary))
					want = append(want, []int8{0, -1, 9, 1}[pair])
				}
				b := container(magic, api.Chunk{Tag: 1, Body: []byte{1, 'm', 1, 0, 1, 0, byte(used), 0, 1}},
					api.Chunk{Tag: 2, Body: []byte{2, byte(weight), 1, 0, 0, 0, 0, 0, 0, 0, 0, 0, 0}},
					api.Chunk{Tag: 3, Body: []byte{byte(x)}}, api.Chunk{Tag: 5, Body: []byte{7, 0, 0, 0, 0, 0, 0, 0}})
				if !good {
					refused(t, "a byte of weights", b, api.ErrPacked)
					continue
				}
				writes(t, "a byte of weights", model(of(1, 1, used), api.Pack{Kind: api.LDense, Weight: weight, K: 1, Rows: []api.Row{spread(used, 0, want[:used])}, Biases: []int64{7}}), b)
			}
		}
	}
}

// TestChunks: chunks under right sums that are not a model's.
func TestChunks(t *testing.T) {
	for what, m := range map[string]api.Model{"tiny": tiny(), "edge": edge(), "mixed": mixed()} {
		cs := chunksOf(m)
		bad := func(how string, cs ...api.Chunk) {
			t.Helper()
			refused(t, what+": "+how, container(magic, cs...), api.ErrPacked)
		}
		with := func(at int, c api.Chunk) []api.Chunk {
			all := slices.Clone(cs)
			all[at] = c
			return all
		}
		bad("none")
		bad("one of nothing", api.Chunk{})
		bad("the layers alone", cs[1:]...)
		bad("the first one behind", append(cs[1:len(cs):len(cs)], cs[0])...)
		bad("backwards", reversed(cs)...)
		bad("twice", slices.Concat(cs, cs)...)
		for i, c := range cs {
			bad("a front", cs[:i]...)
			bad("one less", slices.Delete(slices.Clone(cs), i, i+1)...)
			bad("one twice", slices.Insert(slices.Clone(cs), i, c)...)
			bad("one of them behind", append(cs[:len(cs):len(cs)], c)...)
			bad("an empty one more", slices.Insert(slices.Clone(cs), i+1, api.Chunk{Tag: c.Tag})...)
			bad("one of nothing more", slices.Insert(slices.Clone(cs), i+1, api.Chunk{})...)
			bad("an empty one", with(i, api.Chunk{Tag: c.Tag})...)
			bad("one of nothing", with(i, api.Chunk{})...)
			for _, tag := range []uint32{0, 1, 2, 3, 4, 5, 6, 255, 256 + c.Tag, 65536 + c.Tag, 1<<31 + c.Tag, 1<<32 - 1} {
				if tag != c.Tag {
					bad("another Tag", with(i, api.Chunk{Tag: tag, Body: c.Body})...)
				}
			}
			for at := range c.Body {
				bad("a Body's front", with(i, api.Chunk{Tag: c.Tag, Body: c.Body[:at]})...)
				bad("a Body's end", with(i, api.Chunk{Tag: c.Tag, Body: c.Body[at+1:]})...)
			}
			for _, more := range []int{1, 2, 3, 4, 8, 9, 13} {
				bad("a longer Body", with(i, api.Chunk{Tag: c.Tag, Body: append(c.Body[:len(c.Body):len(c.Body)], make([]byte, more)...)})...)
				bad("a Body with more ahead", with(i, api.Chunk{Tag: c.Tag, Body: append(make([]byte, more), c.Body...)})...)
			}
			for k := range i {
				swapped := slices.Clone(cs)
				swapped[i], swapped[k] = swapped[k], swapped[i]
				// Two layers that are alike in this may change places.
				if !bytes.Equal(cs[i].Body, cs[k].Body) {
					against(t, container(magic, swapped...))
				}
				if cs[i].Tag != cs[k].Tag {
					bad("two exchanged", swapped...)
				}
			}
		}
		for count := range 256 {
			head := slices.Clone(cs[0].Body)
			head[len(head)-1] = byte(count)
			if count != len(m.Packs) {
				bad("another number of layers", with(0, api.Chunk{Tag: 1, Body: head})...)
			}
		}
	}
}

func reversed(cs []api.Chunk) []api.Chunk {
	cs = slices.Clone(cs)
	slices.Reverse(cs)
	return cs
}

// TestDamage: every byte as every other one, every front: chunk.Read's errors.
func TestDamage(t *testing.T) {
	for _, m := range []api.Model{tiny(), mixed()} {
		b := laid(m)
		for i := range b {
			for x := range 256 {
				if byte(x) != b[i] {
					refused(t, "another byte", other(b, i, byte(x)), api.ErrSum)
				}
			}
			refused(t, "a front", b[:i], api.ErrShort)
			refused(t, "a front, the rest in the room behind", slices.Clone(b)[:i:len(b)], api.ErrShort)
		}
		for x := range 256 {
			refused(t, "a byte behind", append(slices.Clone(b), byte(x)), api.ErrTag)
		}
		refused(t, "twice", slices.Concat(b, b), api.ErrTag)
	}
}

// TestContainersFirst: what chunk.Read refuses is told as it tells it, even if the chunks are no model's either.
func TestContainersFirst(t *testing.T) {
	for what, cs := range map[string][]api.Chunk{
		"no chunks": {}, "chunks of nothing": make([]api.Chunk, 3), "a model's": chunksOf(tiny()), "another order": reversed(chunksOf(mixed())),
		"a bad head": {{Tag: 1, Body: []byte{255, 'a'}}}, "1024 chunks": make([]api.Chunk, 1024),
	} {
		b := container(magic, cs...)
		for _, m := range []uint32{0, 1, magic - 1, magic + 1, magic ^ 1<<31, 0x68646c70, 0x63727368, 1<<32 - 1} {
			refused(t, what+": another magic", container(m, cs...), api.ErrTag)
		}
		refused(t, what+": a front", b[:len(b)-1], api.ErrShort)
		refused(t, what+": a byte behind", append(slices.Clone(b), 0), api.ErrTag)
		refused(t, what+": the last byte turned", other(b, len(b)-1, ^b[len(b)-1]), api.ErrSum)
		refused(t, what+": too many bytes", append(slices.Clone(b), make([]byte, api.MaxBytes+1-len(b))...), api.ErrLong)
		refused(t, what+": as many bytes as may be", append(slices.Clone(b), make([]byte, api.MaxBytes-len(b))...), api.ErrTag)
	}
	refused(t, "1024 chunks", container(magic, make([]api.Chunk, 1024)...), api.ErrPacked)
	refused(t, "1025 chunks", container(magic, make([]api.Chunk, 1025)...), api.ErrLong)
	refused(t, "MaxBytes noughts", make([]byte, api.MaxBytes), api.ErrSum)
	// A container as long as one may be, with weights that are too many.
	cs := []api.Chunk{{Tag: 1, Body: hexed("01 61 0010 0010 0100 01")}, {Tag: 2, Body: hexed("02 02 0400 00 00 00 00 00 00 00 00 00")}, {Tag: 3}}
	cs[2].Body = make([]byte, api.MaxBytes-len(container(magic, cs...)))
	refused(t, "a container as long as may be", container(magic, cs...), api.ErrPacked)
}

// cost is how many bytes of memory Decode asks for, and its error.
func cost(b []byte) (int, api.Errno) {
	var before, after runtime.MemStats
	runtime.ReadMemStats(&before)
	_, e := packed.Decode(b)
	runtime.ReadMemStats(&after)
	return int(after.TotalAlloc - before.TotalAlloc), e
}

// TestTold: numbers that tell far more than there is cost no memory.
func TestTold(t *testing.T) {
	head := func(in string, layers byte) api.Chunk {
		return api.Chunk{Tag: 1, Body: append(hexed("01 61"+in), layers)}
	}
	layer := func(s string) api.Chunk { return api.Chunk{Tag: 2, Body: hexed(s)} }
	many := layer("02 02 0010 00 00 00 00 00 00 00 00 00") // a dense layer of 4096 outputs
	deep := layer("01 02 0010 0f 0f 01 01 0e 0e 00 00 00") // a convolution of as many
	for what, cs := range map[string][]api.Chunk{
		"a long name":                    {{Tag: 1, Body: []byte{255, 'a'}}},
		"the greatest input":             {head("ffff ffff ffff", 1), layer("02 02 ffff 00 00 00 00 00 00 00 00 00")},
		"the greatest input that may be": {head("0010 0010 0100", 1), layer("02 02 0100 00 00 00 00 00 00 00 00 00")},
		"as many weights as may be":      {head("0100 0100 0010", 1), many},
		"some of the weights":            {head("0100 0100 0010", 1), many, {Tag: 3, Body: make([]byte, 1000)}, {Tag: 5, Body: make([]byte, 4096*8)}},
		"too many weights":               {head("0010 0010 0100", 1), many, {Tag: 3, Body: make([]byte, 1000)}},
		"a great convolution":            {head("0100 0100 0100", 2), deep},
		"a convolution's first weights":  {head("0100 0100 0100", 2), deep, {Tag: 3, Body: make([]byte, 100)}, {Tag: 4, Body: make([]byte, 100)}},
		"all numbers at their greatest":  {head("0100 0100 0010", 2), layer("01 01 ffff ff ff ff ff ff ff ff ff 01")},
		"weights without thresholds":     {head("0100 0100 0100", 2), many, {Tag: 3, Body: make([]byte, 1024)}},
		"weights without all thresholds": {head("0100 0100 0100", 2), many, {Tag: 3, Body: make([]byte, 1024)}, {Tag: 4, Body: make([]byte, 9*4095)}},
		"weights without all biases":     {head("0100 0100 0100", 1), many, {Tag: 3, Body: make([]byte, 1024)}, {Tag: 5, Body: make([]byte, 8*4095)}},
		"64 layers":                      {head("0100 0100 0100", 64)},
		"255 layers":                     {head("0100 0100 0100", 255)},
		"64 layers, of which one":        append([]api.Chunk{head("0100 0100 0200", 64)}, chunksOf(model(of(1, 1, 2), dense(2, 2), last(2, 2)))[1:4]...),
	} {
		b := container(magic, cs...)
		if _, e := told(b); e != api.ErrPacked {
			t.Errorf("the test's own chunks, %s: %d", what, e)
		}
		if bytes, e := cost(b); e != api.ErrPacked || bytes > 8192+8*len(b) {
			t.Errorf("P19.3: %s: %d, %d bytes of memory for %d bytes", what, e, bytes, len(b))
		}
	}
}

// TestCost: a model that may be costs about what it has: its rows, and the bytes that are read.
func TestCost(t *testing.T) {
	for what, m := range map[string]api.Model{
		"one channel":  model(of(1, 1, 1), conv(256, win(15, 15, 1, 1, 14, 14, 0, 0), 1), last(1, 256)),
		"64 channels":  model(of(1, 1, 64), conv(256, win(15, 15, 1, 1, 14, 14, 0, 0), 64), last(1, 256)),
		"dense layers": model(of(1, 1, 2000), dense(1000, 2000), last(1000, 1000)),
	} {
		b := laid(m)
		rows := 0
		for _, p := range m.Packs {
			for _, r := range p.Rows {
				rows += 64 + 16*len(r.Some.Words)
			}
		}
		if bytes, e := cost(b); e != api.OK || bytes > 2*rows+8*len(b)+1<<16 {
			t.Errorf("P19.3: %s: %d, %d bytes of memory for %d bytes and rows of %d", what, e, bytes, len(b), rows)
		}
	}
}

// TestGreat: models with as much as may be of something have at most MaxBytes bytes.
func TestGreat(t *testing.T) {
	m := api.Model{Name: strings.Repeat("Zz9-", 8), In: of(1, 1, 1)}
	for range 31 {
		m.Packs = append(m.Packs, dense(4096, 1), dense(1, 4096))
	}
	m.Packs = append(m.Packs, dense(4000, 1), last(4000, 4000))
	b, e := packed.Encode(m)
	if e != api.OK || len(b) > api.MaxBytes {
		t.Errorf("P19.3: many thresholds: %d, %d bytes", e, len(b))
	}
	back, e := packed.Decode(b)
	if e != api.OK || !same(back, m) {
		t.Errorf("P19.4: many thresholds: %d", e)
	}
}
