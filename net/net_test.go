package net_test

import (
	"math"
	"slices"
	"strconv"
	"strings"
	"testing"

	"heddle/api"
	"heddle/net"
)

func fr(num, den int64) api.Frac { return api.Frac{Num: num, Den: den} }

// step is the norm that makes sums from 0 on plus.
func step() api.Norm { return api.Norm{G: fr(1, 1), B: fr(0, 1), M: fr(0, 1), S: fr(1, 1)} }

// win is a window: its size, its steps, its borders (Top Left Bottom Right).
func win(r, s, y, x, top, left, bottom, right int) api.Window {
	return api.Window{R: r, S: s, StepY: y, StepX: x, Top: top, Left: left, Bottom: bottom, Right: right}
}

// point is the window of a single place.
func point() api.Window { return win(1, 1, 1, 1, 0, 0, 0, 0) }

// ones are n weights of 1.
func ones(n int) []int8 { return slices.Repeat([]int8{1}, n) }

func conv(k int, w api.Window, channels int) api.Layer {
	return api.Layer{Kind: api.LConv, Weight: api.Binary, K: k, Win: w, Weights: ones(k * w.R * w.S * channels), Norms: slices.Repeat([]api.Norm{step()}, k)}
}

func dense(k, in int) api.Layer {
	return api.Layer{Kind: api.LDense, Weight: api.Binary, K: k, Weights: ones(k * in), Norms: slices.Repeat([]api.Norm{step()}, k)}
}

func last(k, in int) api.Layer {
	return api.Layer{Kind: api.LDense, Weight: api.Binary, K: k, Weights: ones(k * in), Biases: make([]int64, k)}
}

func pool(w api.Window) api.Layer { return api.Layer{Kind: api.LPool, Win: w} }

func of(h, w, c int) api.Shape { return api.Shape{H: h, W: w, C: c} }

func network(in api.Shape, layers ...api.Layer) api.Net {
	return api.Net{Name: "n", In: in, Layers: layers}
}

// example is the chapter's network.
func example() api.Net {
	n := network(of(2, 2, 1), conv(1, win(2, 2, 1, 1, 1, 1, 1, 1), 1), pool(win(2, 2, 1, 1, 0, 0, 0, 0)), last(2, 4))
	n.Layers[0].Border = 1
	n.Layers[0].Weights = []int8{1, -1, -1, 1}
	n.Layers[2].Weight = api.Ternary
	n.Layers[2].Weights = []int8{1, 0, -1, 1, 0, 0, 0, 1}
	n.Layers[2].Biases = []int64{3, -4}
	return n
}

// mixed has a layer of each kind in the midst, and layers behind an LDense: (6, 5, 2), (5, 4, 3), (2, 2, 3), (1, 1, 4), (2, 3, 2), (1, 1, 3).
func mixed() api.Net {
	n := network(of(6, 5, 2), conv(3, win(2, 2, 1, 1, 0, 0, 0, 0), 2), pool(win(3, 2, 2, 2, 0, 0, 0, 0)), dense(4, 12), conv(2, win(1, 1, 1, 1, 1, 0, 0, 2), 4), last(3, 12))
	n.Layers[0].Weight, n.Layers[0].Weights[5] = api.Ternary, 0
	n.Layers[3].Border = -1
	n.Layers[4].Biases[1] = -77
	return n
}

// changed is a network after one change.
func changed(n api.Net, do func(n *api.Net)) api.Net {
	do(&n)
	return n
}

// check holds Check and Shapes against what they should tell.
func check(t *testing.T, what string, n api.Net, at int, e api.Errno) {
	t.Helper()
	if gotAt, got := net.Check(n); gotAt != at || got != e {
		t.Errorf("P5.1: %s: Check = %d, %d, want %d, %d", what, gotAt, got, at, e)
	}
	shapes, got := net.Shapes(n)
	if got != e {
		t.Errorf("P5.2: %s: Shapes tells %d, want %d", what, got, e)
	}
	if e != api.OK && len(shapes) != 0 || e == api.OK && len(shapes) != len(n.Layers) {
		t.Errorf("P5.2: %s: Shapes = %v", what, shapes)
	}
}

func TestExamplesOfTheDocument(t *testing.T) {
	conv := func(do func(l *api.Layer)) api.Net {
		return changed(example(), func(n *api.Net) { do(&n.Layers[0]) })
	}
	dense := func(do func(l *api.Layer)) api.Net {
		return changed(example(), func(n *api.Net) { do(&n.Layers[2]) })
	}
	for _, c := range []struct {
		what string
		n    api.Net
		at   int
		e    api.Errno
	}{
		{"n", example(), 0, api.OK},
		{`named ""`, changed(example(), func(n *api.Net) { n.Name = "" }), -1, api.ErrName},
		{`named "a b"`, changed(example(), func(n *api.Net) { n.Name = "a b" }), -1, api.ErrName},
		{"named with 33 letters", changed(example(), func(n *api.Net) { n.Name = strings.Repeat("x", 33) }), -1, api.ErrName},
		{"In (0, 2, 1)", changed(example(), func(n *api.Net) { n.In = of(0, 2, 1) }), -1, api.ErrShape},
		{"In (4096, 4096, 2)", changed(example(), func(n *api.Net) { n.In = of(4096, 4096, 2) }), -1, api.ErrBig},
		{"without layers", changed(example(), func(n *api.Net) { n.Layers = nil }), -1, api.ErrLayers},
		{"with 65 layers", changed(example(), func(n *api.Net) { n.Layers = slices.Repeat(n.Layers[:1], 65) }), -1, api.ErrLayers},
		{"the first two exchanged", changed(example(), func(n *api.Net) { n.Layers[0], n.Layers[1] = n.Layers[1], n.Layers[0] }), 0, api.ErrLayers},
		{"without its last layer", changed(example(), func(n *api.Net) { n.Layers = n.Layers[:2] }), 1, api.ErrLayers},
		{"LPool with K 1", changed(example(), func(n *api.Net) { n.Layers[1].K = 1 }), 1, api.ErrLayers},
		{"LConv with K 0", conv(func(l *api.Layer) { l.K = 0 }), 0, api.ErrShape},
		{"LConv with StepY 0", conv(func(l *api.Layer) { l.Win.StepY = 0 }), 0, api.ErrWindow},
		{"LConv with Border 2", conv(func(l *api.Layer) { l.Border = 2 }), 0, api.ErrWindow},
		{"LConv with Bottom 15", conv(func(l *api.Layer) { l.Win.Bottom = 15 }), 0, api.ErrWindow},
		{"LConv without borders and Border 1", conv(func(l *api.Layer) { l.Win = win(2, 2, 1, 1, 0, 0, 0, 0) }), 0, api.ErrWindow},
		{"LConv with Border 0 and borders", conv(func(l *api.Layer) { l.Border = 0 }), 0, api.OK},
		{"LConv with R 5", conv(func(l *api.Layer) { l.Win.R = 5 }), 0, api.ErrFit},
		{"LConv with a weight 0", conv(func(l *api.Layer) { l.Weights[3] = 0 }), 0, api.ErrWeight},
		{"LConv with three weights", conv(func(l *api.Layer) { l.Weights = l.Weights[:3] }), 0, api.ErrWeight},
		{"LConv with Weight 3", conv(func(l *api.Layer) { l.Weight = 3 }), 0, api.ErrWeight},
		{"LConv with S -1/1", conv(func(l *api.Layer) { l.Norms[0].S = fr(-1, 1) }), 0, api.ErrNorm},
		{"LConv with a bias", conv(func(l *api.Layer) { l.Biases = []int64{0} }), 0, api.ErrNorm},
		{"LConv with no norms", conv(func(l *api.Layer) { l.Norms = nil }), 0, api.ErrNorm},
		{"LDense with one bias", dense(func(l *api.Layer) { l.Biases = l.Biases[:1] }), 2, api.ErrBias},
		{"LDense with a norm", dense(func(l *api.Layer) { l.Norms = []api.Norm{step()} }), 2, api.ErrBias},
		{"LDense with Biases 2147483643, 0", dense(func(l *api.Layer) { l.Biases = []int64{2147483643, 0} }), 0, api.OK},
		{"LDense with Biases 2147483644, 0", dense(func(l *api.Layer) { l.Biases = []int64{2147483644, 0} }), 2, api.ErrReach},
		{"LDense with Biases -2^63, 0", dense(func(l *api.Layer) { l.Biases = []int64{math.MinInt64, 0} }), 2, api.ErrReach},
	} {
		check(t, c.what, c.n, c.at, c.e)
	}
}

func TestNames(t *testing.T) {
	name := func(s string, e api.Errno) {
		t.Helper()
		at := 0
		if e != api.OK {
			at = -1
		}
		check(t, "named "+strconv.Quote(s), changed(example(), func(n *api.Net) { n.Name = s }), at, e)
	}
	const letters = "abcdefghijklmnopqrstuvwxyzABCDEFGHIJKLMNOPQRSTUVWXYZ0123456789_-"
	for b := range 256 {
		s, e := string([]byte{byte(b)}), api.ErrName
		if strings.Contains(letters, s) {
			e = api.OK
		}
		name(s, e)
		name("x"+s, e)
		name(s+"x", e)
		name("ab"+s+"cd", e)
		name(strings.Repeat("x", 31)+s, e)
	}
	for size, e := range map[int]api.Errno{0: api.ErrName, 1: api.OK, 2: api.OK, 31: api.OK, 32: api.OK, 33: api.ErrName, 64: api.ErrName, 1 << 20: api.ErrName} {
		name(strings.Repeat("q", size), e)
	}
	name("é", api.ErrName)
	name(strings.Repeat("é", 16), api.ErrName)
	name("a\x00", api.ErrName)
}

func TestInputs(t *testing.T) {
	good := map[api.Shape]api.Net{
		of(1, 1, 1):     network(of(1, 1, 1), last(1, 1)),
		of(4096, 1, 1):  network(of(4096, 1, 1), last(1, 4096)),
		of(1, 4096, 1):  network(of(1, 4096, 1), last(1, 4096)),
		of(1, 1, 4096):  network(of(1, 1, 4096), last(1, 4096)),
		of(4096, 4, 50): network(of(4096, 4, 50), last(1, 4096*200)),
	}
	for in, n := range good {
		check(t, "a good input", n, 0, api.OK)
		for _, bad := range []int{0, -1, 4097, math.MinInt, math.MaxInt, 1 << 32} {
			for k := range 3 {
				s := in
				*[]*int{&s.H, &s.W, &s.C}[k] = bad
				check(t, "a bad side", changed(n, func(n *api.Net) { n.In = s }), -1, api.ErrShape)
			}
		}
	}
	for _, in := range []api.Shape{of(4096, 4096, 2), of(4096, 4096, 4096), of(4096, 3, 2048), of(257, 256, 256)} {
		check(t, "a big input", changed(example(), func(n *api.Net) { n.In = in }), -1, api.ErrBig)
	}
	// As many elements as may be: the window leaves few of them.
	n := network(of(4096, 4096, 1), conv(1, win(15, 15, 15, 15, 0, 0, 0, 0), 1), last(1, 273*273))
	check(t, "2^24 elements come in", n, 0, api.OK)
}

// TestHowManyLayers: the layers are such that each number of them could be.
func TestHowManyLayers(t *testing.T) {
	for count := range 70 {
		var layers []api.Layer
		for i := range count {
			layers = append(layers, dense(2, 2))
			if i == count-1 {
				layers[i] = last(2, 2)
			}
		}
		at, e := 0, api.OK
		if count < 1 || count > 64 {
			at, e = -1, api.ErrLayers
		}
		check(t, "layers", network(of(1, 1, 2), layers...), at, e)
	}
	check(t, "an empty list of layers", network(of(1, 1, 2), []api.Layer{}...), -1, api.ErrLayers)
	check(t, "layers of nothing", network(of(1, 1, 2), make([]api.Layer, 64)...), 0, api.ErrLayers)
	check(t, "65 layers of nothing", network(of(1, 1, 2), make([]api.Layer, 65)...), -1, api.ErrLayers)
	check(t, "a hundred thousand layers", network(of(1, 1, 2), make([]api.Layer, 100000)...), -1, api.ErrLayers)
}

func TestShapes(t *testing.T) {
	wide := network(of(4096, 1, 1), conv(4096, point(), 1), pool(win(15, 1, 15, 1, 0, 0, 0, 0)), last(2, 273*4096))
	for _, c := range []struct {
		n    api.Net
		want []api.Shape
	}{
		{example(), []api.Shape{of(3, 3, 1), of(2, 2, 1), of(1, 1, 2)}},
		{mixed(), []api.Shape{of(5, 4, 3), of(2, 2, 3), of(1, 1, 4), of(2, 3, 2), of(1, 1, 3)}},
		{network(of(3, 7, 5), last(4096, 105)), []api.Shape{of(1, 1, 4096)}},
		{wide, []api.Shape{of(4096, 1, 4096), of(273, 1, 4096), of(1, 1, 2)}},
		{network(of(7, 9, 2), conv(5, win(3, 2, 2, 3, 1, 0, 0, 2), 2), pool(win(2, 1, 1, 2, 0, 0, 0, 0)), last(1, 20)), []api.Shape{of(3, 4, 5), of(2, 2, 5), of(1, 1, 1)}},
		{network(of(1, 1, 1), conv(1, win(1, 1, 1, 1, 14, 14, 14, 14), 1), pool(win(15, 15, 15, 15, 0, 0, 0, 0)), dense(3, 1), pool(point()), last(2, 3)), []api.Shape{of(29, 29, 1), of(1, 1, 1), of(1, 1, 3), of(1, 1, 3), of(1, 1, 2)}},
	} {
		if shapes, e := net.Shapes(c.n); e != api.OK || !slices.Equal(shapes, c.want) {
			t.Errorf("P5.2: Shapes = %v, %d, want %v", shapes, e, c.want)
		}
		check(t, "a network with these shapes", c.n, 0, api.OK)
	}
}
