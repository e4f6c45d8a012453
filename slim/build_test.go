package slim_test

import (
	"fmt"
	"slices"
	"testing"

	"heddle/api"
	"heddle/net"
	"heddle/slim"
	"heddle/text"
)

// The greatest sum, bias and numerator by its own number, as the document tells it.
const most = 2147483647

func fr(num, den int64) api.Frac { return api.Frac{Num: num, Den: den} }

// norm is a norm of whole numbers.
func norm(g, b, m, s int64) api.Norm {
	return api.Norm{G: fr(g, 1), B: fr(b, 1), M: fr(m, 1), S: fr(s, 1)}
}

// from is the norm that makes sums from t on plus.
func from(t int64) api.Norm { return norm(1, 0, t, 1) }

// upTo is the norm that makes sums up to t plus.
func upTo(t int64) api.Norm { return norm(-1, 0, t, 1) }

// always and never are norms that make all sums plus, and none.
func always() api.Norm { return norm(0, 0, 0, 1) }
func never() api.Norm  { return norm(0, -1, 0, 1) }

// brink is a norm that makes sums from t on plus, whose M is that far out.
func brink(m, t int64) api.Norm { return norm(1, m-t, m, 1) }

// froms are the norms that make sums from each of them on plus.
func froms(ts ...int64) []api.Norm {
	var norms []api.Norm
	for _, t := range ts {
		norms = append(norms, from(t))
	}
	return norms
}

// read makes weights of a text: a plus, a minus or 0 for each; blanks part it.
func read(s string) []int8 {
	var weights []int8
	for _, c := range s {
		switch c {
		case '+':
			weights = append(weights, 1)
		case '-':
			weights = append(weights, -1)
		case '0':
			weights = append(weights, 0)
		}
	}
	return weights
}

// win is a window: its size, its steps, its borders (Top Left Bottom Right).
func win(r, s, y, x, top, left, bottom, right int) api.Window {
	return api.Window{R: r, S: s, StepY: y, StepX: x, Top: top, Left: left, Bottom: bottom, Right: right}
}

// point is the window of a single place.
func point() api.Window { return win(1, 1, 1, 1, 0, 0, 0, 0) }

// conv is an LConv with an output for each norm.
func conv(w api.Window, border int, weights []int8, norms ...api.Norm) api.Layer {
	return api.Layer{Kind: api.LConv, Weight: api.Ternary, K: len(norms), Win: w, Border: border, Weights: weights, Norms: norms}
}

// dense is an LDense with an output for each norm.
func dense(weights []int8, norms ...api.Norm) api.Layer {
	return api.Layer{Kind: api.LDense, Weight: api.Ternary, K: len(norms), Weights: weights, Norms: norms}
}

// last is an LDense with an output for each bias.
func last(weights []int8, biases ...int64) api.Layer {
	return api.Layer{Kind: api.LDense, Weight: api.Ternary, K: len(biases), Weights: weights, Biases: biases}
}

func pool(w api.Window) api.Layer { return api.Layer{Kind: api.LPool, Win: w} }

func of(h, w, c int) api.Shape { return api.Shape{H: h, W: w, C: c} }

func count(s api.Shape) int { return s.H * s.W * s.C }

func network(in api.Shape, layers ...api.Layer) api.Net {
	return api.Net{Name: "n", In: in, Layers: layers}
}

// binary is the layer with weights of the other kind.
func binary(l api.Layer) api.Layer {
	l.Weight = api.Binary
	return l
}

// show is a network as text, if it has one.
func show(n api.Net) string {
	s, e := text.Print(n)
	if e != api.OK {
		return fmt.Sprintf("%+v", n)
	}
	return s
}

// becomes holds what Slim makes of a network against what it should, and all that is promised of any answer.
func becomes(t *testing.T, what string, n, want api.Net) {
	t.Helper()
	was := net.Clone(n)
	m, e := slim.Slim(n)
	if e != api.OK || !net.Equal(m, want) {
		t.Errorf("P18.2: %s: Slim = %s, %d, want %s", what, show(m), e, show(want))
		return
	}
	if !net.Equal(n, was) {
		t.Errorf("P18.6: %s: Slim changed what was handed in", what)
	}
	if at, e := net.Check(m); e != api.OK {
		t.Errorf("P18.3: %s: the answer may not be: %d, %d", what, at, e)
	}
	smaller(t, what, n, m)
	if again, e := slim.Slim(m); e != api.OK || !net.Equal(again, m) {
		t.Errorf("P18.4: %s: slimmed again it is %+v, %d", what, again, e)
	}
	nothingLeft(t, what, m)
}

// smaller fails unless m is n but for outputs, weights, norms and biases, and has no more of these.
func smaller(t *testing.T, what string, n, m api.Net) {
	t.Helper()
	if m.Name != n.Name || m.In != n.In || len(m.Layers) != len(n.Layers) {
		t.Errorf("P18.4: %s: %q, %v, %d layers", what, m.Name, m.In, len(m.Layers))
		return
	}
	for i, a := range n.Layers {
		b := m.Layers[i]
		if a.Kind != b.Kind || a.Weight != b.Weight || a.Win != b.Win || a.Border != b.Border {
			t.Errorf("P18.4: %s: the layer %d is another one: %+v", what, i, b)
		}
		if b.K > a.K || len(b.Weights) > len(a.Weights) || len(b.Norms) > len(a.Norms) || len(b.Biases) != len(a.Biases) {
			t.Errorf("P18.4: %s: the layer %d is larger: %+v", what, i, b)
		}
	}
}

// nothingLeft fails if a layer of a slimmed network has dead outputs that could go.
func nothingLeft(t *testing.T, what string, n api.Net) {
	t.Helper()
	for i := range n.Layers[:len(n.Layers)-1] {
		if m, there := meantStep(t, n, i); there {
			t.Errorf("P18.5: %s: there is a step left at the layer %d: %+v", what, i, m)
		}
	}
}

// refused holds Slim's and Dead's error against what it should be, and that nothing else is told.
func refused(t *testing.T, what string, n api.Net, e api.Errno) {
	t.Helper()
	if m, got := slim.Slim(n); got != e || !net.Equal(m, api.Net{}) {
		t.Errorf("P18.2: %s: Slim = %+v, %d, want %d", what, m, got, e)
	}
	for _, layer := range []int{-1 << 63, -1, 0, 1, len(n.Layers) - 1, len(n.Layers), 1<<63 - 1} {
		if l, got := slim.Dead(n, layer); got != e || len(l) != 0 {
			t.Errorf("P18.1: %s: Dead(%d) = %v, %d, want %d", what, layer, l, got, e)
		}
	}
}

// dead holds Dead's answer against what it should be.
func dead(t *testing.T, what string, n api.Net, layer int, want ...int) {
	t.Helper()
	if l, e := slim.Dead(n, layer); e != api.OK || !slices.Equal(l, want) {
		t.Errorf("P18.1: %s: Dead(%d) = %v, %d, want %v", what, layer, l, e, want)
	}
}
