package source_test

import (
	"math"
	"slices"
	"strings"
	"testing"

	"heddle/api"
	"heddle/net"
	"heddle/source"
)

// changed is a network after one change.
func changed(do func(n *api.Net)) api.Net {
	n := mixed()
	do(&n)
	return n
}

// TestNetworksThatMayNotBe: Encode answers net.Check's error of each; where the form can tell such a network, its bytes are no source.
func TestNetworksThatMayNotBe(t *testing.T) {
	for _, c := range []struct {
		what string
		e    api.Errno
		do   func(n *api.Net)
	}{
		{"no name", api.ErrName, func(n *api.Net) { n.Name = "" }},
		{"a blank in its name", api.ErrName, func(n *api.Net) { n.Name = "a b" }},
		{"a name of 33 letters", api.ErrName, func(n *api.Net) { n.Name = strings.Repeat("q", 33) }},
		{"no height", api.ErrShape, func(n *api.Net) { n.In.H = 0 }},
		{"no width", api.ErrShape, func(n *api.Net) { n.In.W = 0 }},
		{"no channels", api.ErrShape, func(n *api.Net) { n.In.C = 0 }},
		{"a height of 4097", api.ErrShape, func(n *api.Net) { n.In.H = 4097 }},
		{"a width of 65535", api.ErrShape, func(n *api.Net) { n.In.W = 65535 }},
		{"sides of 65535", api.ErrShape, func(n *api.Net) { n.In = of(65535, 65535, 65535) }},
		{"a big input", api.ErrBig, func(n *api.Net) { n.In = of(4096, 4096, 2) }},
		{"the biggest input", api.ErrBig, func(n *api.Net) { n.In = of(4096, 4096, 4096) }},
		{"no layers", api.ErrLayers, func(n *api.Net) { n.Layers = nil }},
		{"an LPool first", api.ErrLayers, func(n *api.Net) { n.Layers = n.Layers[1:] }},
		{"an LPool last", api.ErrLayers, func(n *api.Net) { n.Layers = n.Layers[:2] }},
		{"an LConv last", api.ErrLayers, func(n *api.Net) { n.Layers = n.Layers[:4] }},
		{"no outputs", api.ErrShape, func(n *api.Net) { l := &n.Layers[2]; l.K, l.Weights, l.Norms = 0, nil, nil }},
		{"no outputs of the last", api.ErrShape, func(n *api.Net) { l := &n.Layers[4]; l.K, l.Weights, l.Biases = 0, nil, nil }},
		{"no outputs of an LConv", api.ErrShape, func(n *api.Net) { l := &n.Layers[3]; l.K, l.Weights, l.Norms = 0, nil, nil }},
		{"4097 outputs", api.ErrShape, func(n *api.Net) { n.In, n.Layers = of(1, 1, 1), []api.Layer{last(4097, 1)} }},
		{"4097 outputs in the midst", api.ErrShape, func(n *api.Net) { n.In, n.Layers = of(1, 1, 1), []api.Layer{dense(4097, 1), last(1, 4097)} }},
		{"4097 outputs of an LConv", api.ErrShape, func(n *api.Net) {
			n.In, n.Layers = of(1, 1, 1), []api.Layer{conv(4097, win(1, 1, 1, 1, 0, 0, 0, 0), 1), last(1, 4097)}
		}},
		{"65535 outputs", api.ErrShape, func(n *api.Net) { n.In, n.Layers = of(1, 1, 1), []api.Layer{last(65535, 1)} }},
		{"a window without rows", api.ErrWindow, func(n *api.Net) { n.Layers[0].Win.R = 0; n.Layers[0].Weights = nil }},
		{"a window without columns", api.ErrWindow, func(n *api.Net) { n.Layers[0].Win.S = 0; n.Layers[0].Weights = nil }},
		{"a step of 0", api.ErrWindow, func(n *api.Net) { n.Layers[0].Win.StepY = 0 }},
		{"a step of 16", api.ErrWindow, func(n *api.Net) { n.Layers[0].Win.StepX = 16 }},
		{"a border of 15", api.ErrWindow, func(n *api.Net) { n.Layers[0].Win.Right = 15 }},
		{"a border of 255", api.ErrWindow, func(n *api.Net) { n.Layers[0].Win.Top = 255 }},
		{"Border 2", api.ErrWindow, func(n *api.Net) { n.Layers[0].Border = 2 }},
		{"Border -2", api.ErrWindow, func(n *api.Net) { n.Layers[0].Border = -2 }},
		{"Border 1 without borders", api.ErrWindow, func(n *api.Net) { n.Layers[0].Win = win(2, 3, 1, 1, 0, 0, 0, 0); n.Layers[0].Border = 1 }},
		{"an LPool with a border", api.ErrWindow, func(n *api.Net) { n.Layers[1].Win.Left = 1 }},
		{"an LPool with a step of 0", api.ErrWindow, func(n *api.Net) { n.Layers[1].Win.StepX = 0 }},
		{"an LPool without rows", api.ErrWindow, func(n *api.Net) { n.Layers[1].Win.R = 0 }},
		{"a window that does not fit", api.ErrFit, func(n *api.Net) { n.Layers[0].Win.R = 8; n.Layers[0].Weights = signs(96, 1) }},
		{"an LPool that does not fit", api.ErrFit, func(n *api.Net) { n.Layers[1].Win.R = 4 }},
		{"an output that is too wide", api.ErrShape, func(n *api.Net) {
			n.In, n.Layers = of(1, 4096, 1), []api.Layer{conv(1, win(1, 1, 1, 1, 0, 1, 0, 0), 1), last(1, 4097)}
		}},
		{"an output that is too big", api.ErrBig, func(n *api.Net) {
			n.In, n.Layers = of(4096, 64, 1), []api.Layer{conv(65, win(1, 1, 1, 1, 0, 0, 0, 0), 1), last(1, 64)}
		}},
		{"Weight 0", api.ErrWeight, func(n *api.Net) { n.Layers[0].Weight = 0 }},
		{"Weight 3", api.ErrWeight, func(n *api.Net) { n.Layers[4].Weight = 3 }},
		{"Weight 255", api.ErrWeight, func(n *api.Net) { n.Layers[2].Weight = 255 }},
		{"2^24 + 4 weights", api.ErrBig, func(n *api.Net) {
			n.In, n.Layers = of(1, 1, 2), []api.Layer{dense(4096, 2), dense(4094, 4096), last(1, 4094)}
		}},
		{"a weight less of Binary", api.ErrWeight, func(n *api.Net) { n.Layers[2].Weights = n.Layers[2].Weights[1:] }},
		{"four weights less", api.ErrWeight, func(n *api.Net) { n.Layers[0].Weights = n.Layers[0].Weights[4:] }},
		{"four weights more", api.ErrWeight, func(n *api.Net) { n.Layers[0].Weights = append(n.Layers[0].Weights, 1, 1, 1, 1) }},
		{"a weight more", api.ErrWeight, func(n *api.Net) { n.Layers[3].Weights = append(n.Layers[3].Weights, 1) }},
		{"a weight 0 more", api.ErrWeight, func(n *api.Net) { n.Layers[0].Weights = append(n.Layers[0].Weights, 0) }},
		{"a weight 0 of Binary", api.ErrWeight, func(n *api.Net) { n.Layers[2].Weights[7] = 0 }},
		{"a weight 0 of Binary, of an LConv", api.ErrWeight, func(n *api.Net) { n.Layers[3].Weights[5] = 0 }},
		{"a norm less", api.ErrNorm, func(n *api.Net) { n.Layers[0].Norms = n.Layers[0].Norms[1:] }},
		{"a norm more", api.ErrNorm, func(n *api.Net) { n.Layers[2].Norms = append(n.Layers[2].Norms, step()) }},
		{"biases for norms", api.ErrNorm, func(n *api.Net) { n.Layers[2].Norms, n.Layers[2].Biases = nil, []int64{1, 2, 3} }},
		{"biases beside norms", api.ErrNorm, func(n *api.Net) { n.Layers[0].Biases = []int64{1, 2} }},
		{"a numerator of -2^31", api.ErrNorm, func(n *api.Net) { n.Layers[0].Norms[1].G.Num = -1 << 31 }},
		{"a denominator of 0", api.ErrNorm, func(n *api.Net) { n.Layers[0].Norms[1].B.Den = 0 }},
		{"a denominator of 2^20 + 1", api.ErrNorm, func(n *api.Net) { n.Layers[0].Norms[0].M.Den = 1<<20 + 1 }},
		{"a denominator of 2^32 - 1", api.ErrNorm, func(n *api.Net) { n.Layers[0].Norms[0].G.Den = 1<<32 - 1 }},
		{"S 0", api.ErrNorm, func(n *api.Net) { n.Layers[2].Norms[2].S.Num = 0 }},
		{"S -1", api.ErrNorm, func(n *api.Net) { n.Layers[3].Norms[1].S.Num = -1 }},
		{"a bias less", api.ErrBias, func(n *api.Net) { n.Layers[4].Biases = n.Layers[4].Biases[1:] }},
		{"a bias more", api.ErrBias, func(n *api.Net) { n.Layers[4].Biases = append(n.Layers[4].Biases, 1) }},
		{"norms for biases", api.ErrBias, func(n *api.Net) { n.Layers[4].Norms, n.Layers[4].Biases = []api.Norm{step(), step()}, nil }},
		{"norms beside biases", api.ErrBias, func(n *api.Net) { n.Layers[4].Norms = []api.Norm{step(), step()} }},
		{"a bias that reaches too far", api.ErrReach, func(n *api.Net) { n.Layers[4].Biases[1]++ }},
		{"a bias that reaches too far down", api.ErrReach, func(n *api.Net) { n.Layers[4].Biases[0]-- }},
		{"a bias of -2^31", api.ErrReach, func(n *api.Net) { n.Layers[4].Biases[0] = -1 << 31 }},
		{"a fan-in that reaches too far", api.ErrReach, func(n *api.Net) { n.In, n.Layers = of(4096, 4096, 1), []api.Layer{last(1, 1<<24)} }},
	} {
		n := changed(c.do)
		unwritten(t, c.what, n, c.e)
		if e := against(t, laid(n)); e != api.ErrSource {
			t.Errorf("P9.2: %s: %d", c.what, e)
		}
	}
}

// TestNumbersBeyondTheForm: numbers that the form has no room for, which would look like good ones there.
func TestNumbersBeyondTheForm(t *testing.T) {
	for _, c := range []struct {
		what string
		e    api.Errno
		do   func(n *api.Net)
	}{
		{"a height", api.ErrShape, func(n *api.Net) { n.In.H += 65536 }},
		{"a width below 0", api.ErrShape, func(n *api.Net) { n.In.W -= 65536 }},
		{"channels", api.ErrShape, func(n *api.Net) { n.In.C += 1 << 32 }},
		{"outputs", api.ErrShape, func(n *api.Net) { n.Layers[0].K += 65536 }},
		{"outputs below 0", api.ErrShape, func(n *api.Net) { n.Layers[4].K -= 65536 }},
		{"the least K", api.ErrShape, func(n *api.Net) { n.Layers[2].K = math.MinInt }},
		{"a window's rows", api.ErrWindow, func(n *api.Net) { n.Layers[0].Win.R += 256 }},
		{"a step", api.ErrWindow, func(n *api.Net) { n.Layers[1].Win.StepX += 256 }},
		{"a border", api.ErrWindow, func(n *api.Net) { n.Layers[0].Win.Bottom -= 256 }},
		{"Border 255", api.ErrWindow, func(n *api.Net) { n.Layers[0].Border = 255 }},
		{"Border 257", api.ErrWindow, func(n *api.Net) { n.Layers[3].Border = 257 }},
		{"a Weight", api.ErrWeight, func(n *api.Net) { n.Layers[0].Weight += 256 }},
		{"a numerator", api.ErrNorm, func(n *api.Net) { n.Layers[0].Norms[0].G.Num += 1 << 32 }},
		{"a numerator of 2^31", api.ErrNorm, func(n *api.Net) { n.Layers[0].Norms[0].G.Num = 1 << 31 }},
		{"a denominator", api.ErrNorm, func(n *api.Net) { n.Layers[0].Norms[0].S.Den += 1 << 32 }},
		{"a denominator below 0", api.ErrNorm, func(n *api.Net) { n.Layers[0].Norms[0].S.Den -= 1 << 32 }},
		{"a bias", api.ErrReach, func(n *api.Net) { n.Layers[4].Biases[0] += 1 << 32 }},
		{"the least bias", api.ErrReach, func(n *api.Net) { n.Layers[4].Biases[0] = math.MinInt64 }},
		{"a weight less, which looks like a 0", api.ErrWeight, func(n *api.Net) { n.Layers[0].Weights = n.Layers[0].Weights[1:] }},
		{"a weight 2", api.ErrWeight, func(n *api.Net) { n.Layers[0].Weights[0] = 2 }},
		{"a weight 3", api.ErrWeight, func(n *api.Net) { n.Layers[0].Weights[23] = 3 }},
		{"a weight -2", api.ErrWeight, func(n *api.Net) { n.Layers[4].Weights[0] = -2 }},
		{"a weight -128", api.ErrWeight, func(n *api.Net) { n.Layers[2].Weights[0] = -128 }},
		{"a weight 127", api.ErrWeight, func(n *api.Net) { n.Layers[2].Weights[0] = 127 }},
		{"a Kind 0", api.ErrLayers, func(n *api.Net) { n.Layers[0].Kind = 0 }},
		{"a Kind 4", api.ErrLayers, func(n *api.Net) { n.Layers[2].Kind = 4 }},
		{"a Kind below 0", api.ErrLayers, func(n *api.Net) { n.Layers[4].Kind = -1 }},
		{"a great Kind", api.ErrLayers, func(n *api.Net) { n.Layers[4].Kind = math.MaxInt }},
		{"an LPool with a K", api.ErrLayers, func(n *api.Net) { n.Layers[1].K = 1 }},
		{"an LPool with a Weight", api.ErrLayers, func(n *api.Net) { n.Layers[1].Weight = 1 }},
		{"an LPool with a Border", api.ErrLayers, func(n *api.Net) { n.Layers[1].Border = 1 }},
		{"an LPool with weights", api.ErrLayers, func(n *api.Net) { n.Layers[1].Weights = []int8{1} }},
		{"an LPool with norms", api.ErrLayers, func(n *api.Net) { n.Layers[1].Norms = []api.Norm{step()} }},
		{"an LPool with biases", api.ErrLayers, func(n *api.Net) { n.Layers[1].Biases = []int64{1} }},
		{"an LDense with a window", api.ErrLayers, func(n *api.Net) { n.Layers[2].Win.R = 1 }},
		{"an LDense with a Border", api.ErrLayers, func(n *api.Net) { n.Layers[4].Border = -1 }},
		{"layers of nothing", api.ErrLayers, func(n *api.Net) { n.Layers = make([]api.Layer, 64) }},
		{"a hundred thousand layers", api.ErrLayers, func(n *api.Net) { n.Layers = make([]api.Layer, 100000) }},
	} {
		unwritten(t, c.what, changed(c.do), c.e)
	}
	unwritten(t, "nothing", api.Net{}, api.ErrName)
}

// TestChunks: chunks under right sums that are not a network's.
func TestChunks(t *testing.T) {
	for what, cs := range map[string][]api.Chunk{"tiny": chunksOf(tiny()), "mixed": mixedBodies()} {
		bad := func(how string, cs ...api.Chunk) {
			t.Helper()
			if e := against(t, container(magic, cs...)); e != api.ErrSource {
				t.Errorf("P9.2: %s: %s: %d", what, how, e)
			}
		}
		with := func(at int, c api.Chunk) []api.Chunk {
			all := slices.Clone(cs)
			all[at] = c
			return all
		}
		bad("none")
		bad("the head alone", cs[0])
		bad("the layers alone", cs[1:]...)
		bad("two heads", append(cs[:1:1], cs...)...)
		bad("a head behind", append(cs[:len(cs):len(cs)], cs[0])...)
		bad("the first one behind", append(cs[1:len(cs):len(cs)], cs[0])...)
		bad("an empty one", with(0, api.Chunk{})...)
		for i, c := range cs {
			bad("one less", slices.Delete(slices.Clone(cs), i, i+1)...)
			bad("one twice", slices.Insert(slices.Clone(cs), i, c)...)
			bad("an empty one more", slices.Insert(slices.Clone(cs), i, api.Chunk{})...)
			for _, tag := range []uint32{0, 1, 2, 3, 4, 5, 6, 255, 256 + c.Tag, 65536 + c.Tag, 1<<31 + c.Tag, 1<<32 - 1} {
				if tag != c.Tag {
					bad("another Tag", with(i, api.Chunk{Tag: tag, Body: c.Body})...)
				}
			}
			for at := range c.Body {
				bad("a Body's front", with(i, api.Chunk{Tag: c.Tag, Body: c.Body[:at]})...)
			}
			for _, more := range []int{1, 2, 3, 4, 8, 32} {
				bad("a longer Body", with(i, api.Chunk{Tag: c.Tag, Body: append(c.Body[:len(c.Body):len(c.Body)], make([]byte, more)...)})...)
			}
			for k := range i {
				swapped := slices.Clone(cs)
				swapped[i], swapped[k] = swapped[k], swapped[i]
				bad("two exchanged", swapped...)
			}
		}
		for count := range 256 {
			head := slices.Clone(cs[0].Body)
			head[len(head)-1] = byte(count)
			if count != len(cs)-1 {
				bad("another number of layers", with(0, api.Chunk{Tag: 1, Body: head})...)
			}
		}
	}
}

// TestTold: numbers that tell far more than there is.
func TestTold(t *testing.T) {
	for what, cs := range map[string][]api.Chunk{
		"a long name":             {{Tag: 1, Body: []byte{255, 'a'}}},
		"the greatest input":      {{Tag: 1, Body: hexed("01 61 ffff ffff ffff 01")}, {Tag: 3, Body: hexed("01 ffff")}},
		"the greatest fan-in":     {{Tag: 1, Body: hexed("01 61 0010 0010 0100 01")}, {Tag: 3, Body: hexed("01 ffff 55 00000000")}},
		"outputs without weights": {{Tag: 1, Body: hexed("01 61 0100 0100 0100 01")}, {Tag: 3, Body: hexed("01 ffff")}},
		"a great convolution":     {{Tag: 1, Body: hexed("01 61 0100 0100 0010 02")}, {Tag: 2, Body: hexed("01 ffff ff ff ff ff ff ff ff ff 01")}, {Tag: 3, Body: hexed("01 ffff")}},
		"outputs without norms":   {{Tag: 1, Body: hexed("01 61 0100 0100 0100 02")}, {Tag: 3, Body: append(hexed("01 ffff"), slices.Repeat([]byte{0x55}, 16384)...)}, {Tag: 3, Body: hexed("01 ffff")}},
		"255 layers":              {{Tag: 1, Body: hexed("01 61 0100 0100 0100 ff")}},
	} {
		if e := against(t, container(magic, cs...)); e != api.ErrSource {
			t.Errorf("P9.2: %s: %d", what, e)
		}
	}
}

// TestFourWeightsAByte: all bytes of weights, of a Binary layer and of a Ternary one, all of which or but one of which is used.
func TestFourWeightsAByte(t *testing.T) {
	for x := range 256 {
		for used := 1; used <= 4; used++ {
			for _, weight := range []byte{api.Binary, api.Ternary} {
				good, want := true, []int8(nil)
				for i := range 4 {
					pair := x >> (2 * i) & 3
					good = good && (i >= used && pair == 0 || i < used && pair < 3 && (pair > 0 || weight == api.Ternary))
					want = append(want, []int8{0, 1, -1, 9}[pair])
				}
				b := container(magic, api.Chunk{Tag: 1, Body: []byte{1, 'n', 1, 0, 1, 0, byte(used), 0, 1}}, api.Chunk{Tag: 3, Body: []byte{weight, 1, 0, byte(x), 7, 0, 0, 0}})
				n := network(of(1, 1, used), api.Layer{Kind: api.LDense, Weight: int(weight), K: 1, Weights: want[:used], Biases: []int64{7}})
				if good {
					writes(t, "a byte of weights", n, b)
				} else {
					refused(t, "a byte of weights", b, api.ErrSource)
				}
			}
		}
	}
}

// TestDamage: every byte as every other one, all neighbours exchanged, every front.
func TestDamage(t *testing.T) {
	small := network(of(2, 2, 1), conv(1, win(1, 2, 1, 1, 0, 1, 0, 0), 1), pool(win(2, 1, 1, 1, 0, 0, 0, 0)), dense(1, 2), last(1, 1))
	for _, n := range []api.Net{tiny(), small, mixed()} {
		b := laid(n)
		for i := range b {
			for x := range 256 {
				if byte(x) != b[i] {
					damaged(t, other(b, i, byte(x)))
				}
			}
			exchanged(t, b, i)
			refused(t, "P9.4: a front", b[:i], api.ErrShort)
			refused(t, "P9.4: a front, the rest in the room behind", slices.Clone(b)[:i:len(b)], api.ErrShort)
		}
		for x := range 256 {
			refused(t, "a byte behind", append(slices.Clone(b), byte(x)), api.ErrTag)
		}
		refused(t, "twice", slices.Concat(b, b), api.ErrTag)
	}
}

// damaged: bytes are refused, with the error that chunk.Read has of them.
func damaged(t *testing.T, b []byte) {
	t.Helper()
	if n, e := source.Decode(b); e != api.ErrSum || !net.Equal(n, api.Net{}) {
		t.Errorf("P9.4: %.300x: %d, %+v", b, e, n)
	}
}

// exchanged: a byte and the next one change places.
func exchanged(t *testing.T, b []byte, at int) {
	t.Helper()
	if at+1 < len(b) && b[at] != b[at+1] {
		c := slices.Clone(b)
		c[at], c[at+1] = c[at+1], c[at]
		damaged(t, c)
	}
}

// TestDamageOfMuch: the same of a long source, at some places.
func TestDamageOfMuch(t *testing.T) {
	n := network(of(1, 1, 512), dense(512, 512), dense(100, 512), last(3, 100))
	b := laid(n)
	d := dice(3)
	for range 100 {
		i := d.roll(0, len(b)-1)
		damaged(t, other(b, i, b[i]^byte(d.roll(1, 255))))
		exchanged(t, b, i)
		refused(t, "P9.4: a front", b[:i], api.ErrShort)
	}
}

func TestLong(t *testing.T) {
	// filled is a container of so many bytes, whose last chunk is a long one.
	filled := func(size int, cs ...api.Chunk) []byte {
		left := size - len(container(magic, append(cs, api.Chunk{})...))
		return container(magic, append(cs, api.Chunk{Tag: 3, Body: make([]byte, left)})...)
	}
	b := laid(tiny())
	for _, c := range []struct {
		what string
		b    []byte
		e    api.Errno
	}{
		{"MaxBytes noughts", make([]byte, api.MaxBytes), api.ErrSum},
		{"a nought more", make([]byte, api.MaxBytes+1), api.ErrLong},
		{"many more", make([]byte, 2*api.MaxBytes), api.ErrLong},
		{"MaxBytes bytes of a container", filled(api.MaxBytes, chunksOf(tiny())[0]), api.ErrSource},
		{"a byte more of a container", filled(api.MaxBytes+1, chunksOf(tiny())[0]), api.ErrLong},
		{"MaxBytes bytes of weights", filled(api.MaxBytes, api.Chunk{Tag: 1, Body: hexed("01 61 0010 0010 0100 01")}), api.ErrSource},
		{"a source and noughts", append(slices.Clone(b), make([]byte, api.MaxBytes-len(b))...), api.ErrTag},
		{"a source and a nought more", append(slices.Clone(b), make([]byte, api.MaxBytes+1-len(b))...), api.ErrLong},
		{"1024 chunks", container(magic, make([]api.Chunk, 1024)...), api.ErrSource},
		{"1025 chunks", container(magic, make([]api.Chunk, 1025)...), api.ErrLong},
	} {
		refused(t, c.what, c.b, c.e)
	}
}

// TestMagic: a container of another magic.
func TestMagic(t *testing.T) {
	for _, m := range []uint32{0, 1, magic - 1, magic + 1, magic ^ 1<<31, 0x68737263, 0x706c6468, 1<<32 - 1} {
		for _, n := range []api.Net{tiny(), mixed()} {
			refused(t, "another magic", container(m, chunksOf(n)...), api.ErrTag)
		}
		refused(t, "another magic and no chunks", container(m), api.ErrTag)
		refused(t, "another magic and chunks of nothing", container(m, make([]api.Chunk, 3)...), api.ErrTag)
	}
}
