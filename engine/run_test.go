package engine_test

import (
	"fmt"
	"slices"
	"testing"

	"heddle/api"
	"heddle/arena"
	"heddle/engine"
)

// TestInputsOfAnotherSize: too few bytes, too many, none.
func TestInputsOfAnotherSize(t *testing.T) {
	d := dice(223)
	for _, n := range d.networks(20) {
		g, size := load(t, n), count(n.In)
		for length := range 2*size + 3 {
			if length != size {
				refuses(t, "another size", g, make([]byte, length))
			}
		}
		refuses(t, "nil", g, nil)
		refuses(t, "the right size, in the room behind it", g, make([]byte, size)[:size-1])
		refuses(t, "far too many", g, make([]byte, 1<<20))
		alike(t, "once others were refused", g, n, make([]byte, size))
	}
}

// TestArg: the greatest logit, of several the lowest place.
func TestArg(t *testing.T) {
	const far = most - 128 // the greatest bias beside one weight in the first layer
	for _, c := range []struct {
		arg    int
		biases []int64
	}{
		{0, []int64{0}}, {0, []int64{-9}}, {0, []int64{0, 0}}, {1, []int64{0, 1}}, {0, []int64{1, 0}}, {0, []int64{-1, -2}}, {1, []int64{-2, -1}},
		{2, []int64{1, 2, 3}}, {0, []int64{3, 2, 1}}, {1, []int64{1, 3, 2}}, {1, []int64{1, 3, 3}}, {0, []int64{3, 1, 3}}, {0, []int64{3, 3, 1}}, {0, []int64{3, 3, 3}},
		{1, []int64{-5, -4, -4, -5}}, {3, []int64{-7, -7, -7, -6, -6}}, {1, []int64{-far, far, far}}, {0, []int64{far, -far, far}}, {1, []int64{-far, 1 - far, -far}},
	} {
		// Weights that are all nothing: the logits are the biases.
		n := network(of(1, 1, 1), last(make([]int8, len(c.biases)), c.biases...))
		for _, x := range []byte{0, 1, 127, 128, 255} {
			runs(t, "the biases alone", load(t, n), []byte{x}, c.arg, c.biases...)
		}
	}
}

// TestAllBytes: one element, each byte, weights of all kinds, as the last layer and as one ahead.
func TestAllBytes(t *testing.T) {
	lone := load(t, network(of(1, 1, 1), last([]int8{1, -1, 0}, 0, 0, 0)))
	for x := range 256 {
		v := int64(int8(x))
		arg := 0
		if v < 0 {
			arg = 1
		}
		runs(t, "a byte with its sign", lone, []byte{byte(x)}, arg, v, -v, 0)
	}
	for _, turn := range []int64{-129, -128, -127, -1, 0, 1, 126, 127, 128} {
		for what, first := range map[string]api.Layer{
			"dense": dense([]int8{1, -1, 0, 1}, from(turn), from(turn), from(turn), upTo(turn)),
			"conv":  conv(point(), 0, []int8{1, -1, 0, 1}, from(turn), from(turn), from(turn), upTo(turn)),
		} {
			g := load(t, network(of(1, 1, 1), first, last(read("+000 0+00 00+0 000+"), 0, 0, 0, 0)))
			for x := range 256 {
				v := int64(int8(x))
				want := []int64{-1, -1, -1, -1}
				for k, plus := range []bool{v >= turn, -v >= turn, 0 >= turn, v <= turn} {
					if plus {
						want[k] = 1
					}
				}
				runs(t, what, g, []byte{byte(x)}, max(0, slices.Index(want, 1)), want...)
			}
		}
	}
}

// inAllWays holds engines of a network, with a plan for each way, against plain.
func inAllWays(t *testing.T, what string, n api.Net, inputs [][]byte) {
	t.Helper()
	g := load(t, n)
	engines := []*engine.Engine{g}
	for _, way := range []int{api.WayDirect, api.WayPatch, api.WayBlock} {
		ways := make([]int, len(n.Layers))
		for i, l := range n.Layers {
			if l.Kind == api.LConv {
				ways[i] = way
			}
		}
		p, e := arena.Make(g.Model(), ways...)
		if e != api.OK {
			t.Fatalf("the test's own ways: %d", e)
		}
		engines = append(engines, with(t, g, p))
	}
	for i, h := range engines {
		for _, x := range inputs {
			alike(t, fmt.Sprintf("%s, way %d", what, i), h, n, x)
		}
	}
}

// TestChannels: counts of channels about a word's bits, in front of and behind each kind of layer.
func TestChannels(t *testing.T) {
	d := dice(64)
	counts := []int{1, 2, 63, 64, 65, 127, 128, 129}
	for _, a := range counts {
		for _, b := range counts {
			n := network(of(2, 3, a), conv(win(2, 2, 1, 1, 0, 1, 0, 0), 1, d.weights(b*4*a), d.norms(b, 300)...),
				conv(win(2, 2, 1, 1, 1, 1, 1, 1), -1, d.weights(a*4*b), d.norms(a, 10)...), pool(win(2, 2, 1, 2, 0, 0, 0, 0)),
				dense(d.weights(b*2*a), d.norms(b, 8)...), dense(d.signs(a*b), d.norms(a, 8)...), last(d.weights(b*a), make([]int64, b)...))
			n.Layers[4].Weight = api.Binary
			inAllWays(t, fmt.Sprintf("%d and %d channels", a, b), n, d.inputs(n, 1))
		}
	}
}

// TestDenseOverPlaces: an LDense reads all places without the gaps that a cube has.
func TestDenseOverPlaces(t *testing.T) {
	d := dice(65)
	for _, c := range []int{1, 3, 63, 64, 65, 130} {
		for _, s := range []api.Shape{of(1, 5, c), of(5, 1, c), of(3, 4, c)} {
			n := network(s, conv(point(), 0, d.weights(c*c), d.norms(c, 200)...), dense(d.signs(66*count(s)), d.norms(66, 20)...), last(d.weights(3*66), 0, 0, 0))
			inAllWays(t, fmt.Sprintf("an LDense behind %v", s), n, d.inputs(n, 2))
			n = network(s, dense(d.signs(66*count(s)), d.norms(66, 900)...), last(d.weights(3*66), 0, 0, 0))
			inAllWays(t, fmt.Sprintf("an LDense over the input %v", s), n, d.inputs(n, 2))
		}
	}
}

// TestBorders: each border alone and all, of each value, narrow and wider than the window, in the first layer and behind it.
func TestBorders(t *testing.T) {
	d := dice(14)
	for _, w := range []api.Window{
		win(2, 3, 1, 1, 2, 0, 0, 0), win(2, 3, 1, 1, 0, 2, 0, 0), win(2, 3, 1, 1, 0, 0, 2, 0), win(2, 3, 1, 1, 0, 0, 0, 2), win(3, 3, 1, 1, 1, 1, 1, 1),
		win(3, 2, 2, 3, 1, 2, 0, 3), win(1, 1, 1, 1, 3, 3, 3, 3), win(2, 2, 3, 3, 14, 14, 14, 14), win(15, 15, 15, 15, 14, 14, 14, 14), win(15, 1, 1, 1, 6, 0, 6, 0), win(1, 15, 2, 2, 0, 7, 0, 7),
	} {
		for border := -1; border <= 1; border++ {
			for _, c := range []int{1, 65} {
				in := of(3, 3, c)
				first := conv(w, border, d.weights(2*w.R*w.S*c), d.norms(2, 300)...)
				out := outOf(first, in)
				n := network(in, first, last(d.weights(3*count(out)), 1, 0, -1))
				inAllWays(t, fmt.Sprintf("%+v, border %d, over numbers", w, border), n, d.inputs(n, 1))
				n = network(in, conv(point(), 0, d.signs(c*c), d.norms(c, 300)...), first, last(d.weights(3*count(out)), 1, 0, -1))
				n.Layers[1].Norms = d.norms(2, 8)
				inAllWays(t, fmt.Sprintf("%+v, border %d, over signs", w, border), n, d.inputs(n, 1))
			}
		}
	}
}

// TestPools: windows of all steps; the greatest of what is seen, channel by channel.
func TestPools(t *testing.T) {
	d := dice(15)
	for _, c := range []int{1, 64, 65} {
		for _, w := range []api.Window{point(), win(2, 2, 1, 1, 0, 0, 0, 0), win(2, 2, 2, 2, 0, 0, 0, 0), win(1, 3, 2, 1, 0, 0, 0, 0), win(5, 1, 1, 4, 0, 0, 0, 0), win(5, 4, 15, 15, 0, 0, 0, 0), win(1, 1, 3, 2, 0, 0, 0, 0)} {
			in := of(5, 4, c)
			out := outOf(pool(w), in)
			behind := outOf(pool(point()), out)
			n := network(in, conv(point(), 0, d.signs(c*c), slices.Repeat([]api.Norm{from(100)}, c)...), pool(w), pool(point()), last(d.signs(2*count(behind)), 0, 0))
			inAllWays(t, fmt.Sprintf("a pool %+v of %d channels", w, c), n, d.inputs(n, 3))
		}
	}
}

// TestThresholds: every Mode, at the ends of what a sum can be and about where it turns.
func TestThresholds(t *testing.T) {
	norms := []api.Norm{always(), never(), from(0), upTo(0), from(1), upTo(-1), from(-384), from(-383), from(381), from(382), upTo(-384), upTo(-385), upTo(381), upTo(380),
		from(most), from(1 - most), upTo(-most), upTo(most - 1), {G: fr(-2, 3), B: fr(1, 3), M: fr(1, 2), S: fr(5, 1)}, {G: fr(1, 1<<20), B: fr(0, 7), M: fr(7, 2), S: fr(most, 3)}}
	d := dice(16)
	k := len(norms)
	n := network(of(1, 1, 3), dense(turns(3*k, 1), norms...), last(d.signs(4*k), 0, 0, 0, 0))
	c := network(of(1, 1, 3), conv(point(), 0, turns(3*k, 1), norms...), last(d.signs(4*k), 0, 0, 0, 0))
	inputs := d.inputs(n, 20)
	for x := range 256 {
		inputs = append(inputs, []byte{byte(x), 0, 0}, []byte{127, byte(x), 127}, []byte{128, 128, byte(x)})
	}
	inAllWays(t, "thresholds of an LDense", n, inputs)
	inAllWays(t, "thresholds of an LConv", c, inputs)
}

// TestManyLayers: as many as there may be, of all kinds in turn.
func TestManyLayers(t *testing.T) {
	d := dice(63)
	in := of(3, 3, 2)
	n := network(in)
	for i := range 63 {
		l := conv(win(2, 2, 1, 1, 1, 2, 1, 2), 1-i%3, d.weights(3*4*in.C), d.norms(3, 2)...)
		switch i % 4 {
		case 1:
			l = pool(win(2, 2, 1, 2, 0, 0, 0, 0))
		case 3:
			l = dense(d.signs(5*count(in)), d.norms(5, 3)...)
		}
		n.Layers = append(n.Layers, l)
		in = outOf(l, in)
	}
	n.Layers = append(n.Layers, last(d.weights(4*count(in)), 0, 1, 2, 3))
	inAllWays(t, "64 layers", n, d.inputs(n, 5))
}

// TestWideLayers: as many channels and outputs as there may be.
func TestWideLayers(t *testing.T) {
	d := dice(4096)
	n := network(of(1, 1, 4096), dense(d.signs(33*4096), d.norms(33, 9000)...), dense(d.weights(4096*33), d.norms(4096, 5)...),
		conv(win(1, 1, 1, 1, 0, 1, 0, 0), 1, d.signs(65*4096), d.norms(65, 40)...), conv(point(), 0, d.signs(4096*65), d.norms(4096, 8)...), last(d.weights(8192), 0))
	inAllWays(t, "4096 channels", n, d.inputs(n, 1))
	n = network(of(1, 1, 2), last(d.weights(4096*2), make([]int64, 4096)...))
	inAllWays(t, "4096 logits", n, d.inputs(n, 3))
	n = network(of(1, 4096, 2), conv(win(1, 2, 1, 15, 0, 0, 0, 0), 0, d.weights(3*4), d.norms(3, 100)...), last(d.weights(2*273*3), 0, 0))
	inAllWays(t, "4096 columns", n, d.inputs(n, 1))
	n = network(of(4096, 1, 2), conv(win(3, 1, 7, 1, 0, 0, 0, 0), 0, d.weights(3*6), d.norms(3, 100)...), last(d.weights(2*585*3), 0, 0))
	inAllWays(t, "4096 rows", n, d.inputs(n, 1))
}
