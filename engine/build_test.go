package engine_test

import (
	"fmt"
	"reflect"
	"slices"
	"testing"

	"heddle/api"
	"heddle/convert"
	"heddle/engine"
	"heddle/net"
	"heddle/plain"
	"heddle/source"
)

// Numbers of the document by themselves.
const (
	most     = 2147483647
	maxTrace = 4194304
	maxWords = 67108864
)

func of(h, w, c int) api.Shape { return api.Shape{H: h, W: w, C: c} }

func count(s api.Shape) int { return s.H * s.W * s.C }

// win is a window: its size, its steps, its borders (Top Left Bottom Right).
func win(r, s, y, x, top, left, bottom, right int) api.Window {
	return api.Window{R: r, S: s, StepY: y, StepX: x, Top: top, Left: left, Bottom: bottom, Right: right}
}

// point is the window of one place.
func point() api.Window { return win(1, 1, 1, 1, 0, 0, 0, 0) }

func fr(num, den int64) api.Frac { return api.Frac{Num: num, Den: den} }

// norm is a norm of whole numbers.
func norm(g, b, m, s int64) api.Norm {
	return api.Norm{G: fr(g, 1), B: fr(b, 1), M: fr(m, 1), S: fr(s, 1)}
}

// from and upTo are the norms that make sums from t on plus, and up to t.
func from(t int64) api.Norm { return norm(1, 0, t, 1) }
func upTo(t int64) api.Norm { return norm(-1, 0, t, 1) }

// always and never are norms that make all sums plus, and none.
func always() api.Norm { return norm(0, 0, 0, 1) }
func never() api.Norm  { return norm(0, -1, 0, 1) }

// zeros are k norms that make sums from 0 on plus.
func zeros(k int) []api.Norm { return slices.Repeat([]api.Norm{from(0)}, k) }

// read makes weights of a text: a plus, a minus or 0 for each; blanks part it.
func read(s string) []int8 {
	var weights []int8
	for _, c := range s {
		if c != ' ' {
			weights = append(weights, map[rune]int8{'+': 1, '-': -1, '0': 0}[c])
		}
	}
	return weights
}

// turns are n weights, in turn.
func turns(n int, turn ...int8) []int8 { return slices.Repeat(turn, n/len(turn)+1)[:n] }

// conv is an LConv with an output for each norm.
func conv(w api.Window, border int, weights []int8, norms ...api.Norm) api.Layer {
	return api.Layer{Kind: api.LConv, Weight: api.Ternary, K: len(norms), Win: w, Border: border, Weights: weights, Norms: norms}
}

// dense is an LDense with an output for each norm.
func dense(weights []int8, norms ...api.Norm) api.Layer {
	return api.Layer{Kind: api.LDense, Weight: api.Ternary, K: len(norms), Weights: weights, Norms: norms}
}

// last is an LDense with an output for each bias.
func last(weights []int8, biases ...int64) api.Layer {
	return api.Layer{Kind: api.LDense, Weight: api.Ternary, K: len(biases), Weights: weights, Biases: biases}
}

func pool(w api.Window) api.Layer { return api.Layer{Kind: api.LPool, Win: w} }

// binary is the layer with weights of the other kind.
func binary(l api.Layer) api.Layer {
	l.Weight = api.Binary
	return l
}

func network(in api.Shape, layers ...api.Layer) api.Net {
	return api.Net{Name: "n", In: in, Layers: layers}
}

// tiny and edge are the chapter's networks.
func tiny(biases ...int64) api.Net {
	return api.Net{Name: "tiny", In: of(1, 1, 3), Layers: []api.Layer{last(read("+0- +++"), biases...)}}
}

func edge(border int, n api.Norm) api.Net {
	return api.Net{Name: "edge", In: of(2, 2, 1), Layers: []api.Layer{
		binary(conv(win(3, 3, 1, 1, 1, 1, 1, 1), border, turns(9, 1), n)),
		binary(last(read("++++ +-+-"), 0, 0)),
	}}
}

// edgePool is edge with an LPool between.
func edgePool(border int, n api.Norm) api.Net {
	e := edge(border, n)
	return network(e.In, e.Layers[0], pool(win(2, 2, 1, 1, 0, 0, 0, 0)), binary(last(read("+ -"), 0, 0)))
}

// mixed has layers of all kinds, weights of both, all three borders, thresholds of all Modes, and biases at both ends. Its outputs are 5 5 2, 4 2 2, 1 1 3, 2 3 2, 2 2 3, 1 1 3.
func mixed() api.Net {
	d := dice(3)
	half := api.Norm{G: fr(-2, 4), B: fr(1, 3), M: fr(3, 2), S: fr(5, 5)}
	return api.Net{Name: "Mixed_-9", In: of(4, 3, 2), Layers: []api.Layer{
		conv(win(2, 3, 1, 1, 1, 2, 1, 2), -1, d.weights(2*12), from(-3), half),
		pool(win(2, 2, 1, 3, 0, 0, 0, 0)),
		binary(dense(d.signs(3*16), half, from(1), upTo(2))),
		conv(win(1, 2, 1, 1, 1, 1, 0, 2), 1, d.weights(2*6), from(0), always()),
		binary(conv(win(2, 2, 2, 1, 0, 0, 2, 0), 0, d.signs(3*8), upTo(1), never(), from(2))),
		last(d.weights(3*12), -2147483635, 2147483635, 0),
	}}
}

// bytesOf is a network's packed model as bytes, by way of its source.
func bytesOf(t testing.TB, n api.Net) []byte {
	t.Helper()
	src, e := source.Encode(n)
	if e != api.OK {
		at, _ := net.Check(n)
		t.Fatalf("the test's own network may not be: %d, %d", at, e)
	}
	b, e := convert.Convert(src)
	if e != api.OK || len(b) == 0 {
		t.Fatalf("T1: Convert = %d bytes, %d", len(b), e)
	}
	return b
}

// ready is the engine of bytes that are a model.
func ready(t testing.TB, b []byte) *engine.Engine {
	t.Helper()
	g, e := engine.Load(b)
	if g == nil || e != api.OK {
		t.Fatalf("P22.1: Load = %v, %d", g, e)
	}
	return g
}

// load is the engine of a network.
func load(t testing.TB, n api.Net) *engine.Engine {
	t.Helper()
	return ready(t, bytesOf(t, n))
}

// with is the engine with another plan that may be.
func with(t testing.TB, g *engine.Engine, p api.Plan) *engine.Engine {
	t.Helper()
	h, e := g.With(p)
	if h == nil || e != api.OK {
		t.Fatalf("P22.2: With(%+v) = %v, %d", p, h, e)
	}
	return h
}

func sameResult(a, b api.Result) bool { return a.Arg == b.Arg && slices.Equal(a.Logits, b.Logits) }

func sameSteps(a, b []api.Step) bool {
	return slices.EqualFunc(a, b, func(x, y api.Step) bool { return x.Shape == y.Shape && slices.Equal(x.Values, y.Values) })
}

func samePlan(a, b api.Plan) bool {
	return a.Words == b.Words && slices.Equal(a.Ways, b.Ways) && slices.Equal(a.Slots, b.Slots)
}

// settled is a model without the difference between nil and empty lists.
func settled(m api.Model) api.Model {
	m.Packs = append([]api.Pack{}, m.Packs...)
	for i, p := range m.Packs {
		p.Rows, p.Threshes, p.Biases = append([]api.Row{}, p.Rows...), append([]api.Thresh{}, p.Threshes...), append([]int64{}, p.Biases...)
		for k, r := range p.Rows {
			p.Rows[k].Sign.Words, p.Rows[k].Some.Words = append([]uint64{}, r.Sign.Words...), append([]uint64{}, r.Some.Words...)
		}
		m.Packs[i] = p
	}
	return m
}

func sameModel(a, b api.Model) bool { return reflect.DeepEqual(settled(a), settled(b)) }

// show is the front of what a thing holds.
func show(v any) string {
	s := fmt.Sprintf("%+v", v)
	return s[:min(len(s), 1500)]
}

// runs: Run answers these logits and this Arg.
func runs(t *testing.T, what string, g *engine.Engine, x []byte, arg int, logits ...int64) {
	t.Helper()
	if r, e := g.Run(x); e != api.OK || !sameResult(r, api.Result{Logits: logits, Arg: arg}) {
		t.Errorf("P22.3: %s: Run(%v) = %s, %d, not %v, %d", what, x, show(r), e, logits, arg)
	}
}

// alike: the engine answers to an input what plain does of the network.
func alike(t *testing.T, what string, g *engine.Engine, n api.Net, x []byte) {
	t.Helper()
	want, e := plain.Run(n, x)
	steps, eToo := plain.Trace(n, x)
	if e != api.OK || eToo != api.OK {
		t.Fatalf("%s: the test's own network does not run: %d, %d", what, e, eToo)
	}
	gives(t, what, g, x, want, steps)
}

// gives: the engine answers this to an input.
func gives(t *testing.T, what string, g *engine.Engine, x []byte, want api.Result, steps []api.Step) {
	t.Helper()
	if r, e := g.Run(x); e != api.OK || !sameResult(r, want) {
		t.Errorf("P22.3, T1: %s: Run(%s) = %s, %d, not %s", what, show(x), show(r), e, show(want))
	}
	if l, e := g.Trace(x); e != api.OK || !sameSteps(l, steps) {
		t.Errorf("P22.4, T1: %s: Trace(%s) = %s, %d, not %s", what, show(x), show(l), e, show(steps))
	}
}

// refuses: Run and Trace answer ErrInput and nothing else.
func refuses(t *testing.T, what string, g *engine.Engine, x []byte) {
	t.Helper()
	if r, e := g.Run(x); e != api.ErrInput || !sameResult(r, api.Result{}) {
		t.Errorf("P22.3: %s: Run of %d bytes = %s, %d", what, len(x), show(r), e)
	}
	if l, e := g.Trace(x); e != api.ErrInput || len(l) != 0 {
		t.Errorf("P22.4: %s: Trace of %d bytes = %s, %d", what, len(x), show(l), e)
	}
}

// TestTheTestsNetworks: the networks of these tests may be, and have the shapes that are told of them.
func TestTheTestsNetworks(t *testing.T) {
	shapes, e := net.Shapes(mixed())
	if e != api.OK || !slices.Equal(shapes, []api.Shape{of(5, 5, 2), of(4, 2, 2), of(1, 1, 3), of(2, 3, 2), of(2, 2, 3), of(1, 1, 3)}) {
		at, _ := net.Check(mixed())
		t.Errorf("the test's own network: %v, %d, %d", shapes, at, e)
	}
}
