package plain_test

import (
	"reflect"
	"slices"
	"testing"

	"heddle/api"
	"heddle/net"
	"heddle/plain"
)

func fr(num, den int64) api.Frac { return api.Frac{Num: num, Den: den} }

// from is the norm that makes sums from t on plus.
func from(t int64) api.Norm { return api.Norm{G: fr(1, 1), B: fr(0, 1), M: fr(t, 1), S: fr(1, 1)} }

// froms are the norms that make sums from each of them on plus.
func froms(ts ...int64) []api.Norm {
	var norms []api.Norm
	for _, t := range ts {
		norms = append(norms, from(t))
	}
	return norms
}

// win is a window: its size, its steps, its borders (Top Left Bottom Right).
func win(r, s, y, x, top, left, bottom, right int) api.Window {
	return api.Window{R: r, S: s, StepY: y, StepX: x, Top: top, Left: left, Bottom: bottom, Right: right}
}

// point is the window of a single place.
func point() api.Window { return win(1, 1, 1, 1, 0, 0, 0, 0) }

// ones are n weights of 1.
func ones(n int) []int8 { return slices.Repeat([]int8{1}, n) }

// conv is an LConv with an output for each norm.
func conv(w api.Window, border int, weights []int8, norms ...api.Norm) api.Layer {
	return api.Layer{Kind: api.LConv, Weight: api.Ternary, K: len(norms), Win: w, Border: border, Weights: weights, Norms: norms}
}

// dense is an LDense with an output for each norm.
func dense(weights []int8, norms ...api.Norm) api.Layer {
	return api.Layer{Kind: api.LDense, Weight: api.Ternary, K: len(norms), Weights: weights, Norms: norms}
}

// last is an LDense with an output for each bias.
func last(weights []int8, biases ...int64) api.Layer {
	return api.Layer{Kind: api.LDense, Weight: api.Ternary, K: len(biases), Weights: weights, Biases: biases}
}

func pool(w api.Window) api.Layer { return api.Layer{Kind: api.LPool, Win: w} }

func of(h, w, c int) api.Shape { return api.Shape{H: h, W: w, C: c} }

func count(s api.Shape) int { return s.H * s.W * s.C }

func network(in api.Shape, layers ...api.Layer) api.Net {
	return api.Net{Name: "n", In: in, Layers: layers}
}

// input is numbers as a network's input.
func input(numbers ...int) []byte {
	var x []byte
	for _, v := range numbers {
		x = append(x, byte(v))
	}
	return x
}

// first is the chapter's first network.
func first() api.Net {
	n := network(of(1, 1, 2), dense([]int8{1, 1, 1, -1}, froms(0, 0)...), last([]int8{1, 0, -1, 1}, 0, 5))
	n.Layers[0].Weight = api.Binary
	return n
}

// second is the chapter's second network.
func second() api.Net {
	norm := api.Norm{G: fr(-2, 3), B: fr(1, 3), M: fr(1, 2), S: fr(5, 1)}
	n := network(of(2, 2, 1), conv(win(2, 2, 1, 1, 0, 0, 1, 1), -1, []int8{1, 1, 0, -1}, norm), last(ones(4), 0))
	n.Layers[1].Weight = api.Binary
	return n
}

// mixed has a layer of each kind in the midst, and layers behind an LDense.
func mixed() api.Net {
	d := dice(7)
	return network(of(5, 4, 2),
		conv(win(2, 3, 1, 1, 1, 0, 0, 2), -1, d.weights(3*12), froms(-3, 0, 40)...),
		pool(win(2, 2, 2, 1, 0, 0, 0, 0)),
		dense(d.weights(4*18), froms(-1, 0, 1, 2)...),
		conv(win(1, 2, 1, 2, 1, 1, 0, 2), 1, d.weights(2*8), froms(0, 1)...),
		pool(point()),
		last(d.weights(3*8), 3, -4, 0))
}

// answers holds Run and Trace against what they should answer.
func answers(t *testing.T, what string, n api.Net, x []byte, steps []api.Step) {
	t.Helper()
	got, e := plain.Trace(n, x)
	if e != api.OK || !sameSteps(got, steps) {
		t.Errorf("P6.2: %s: Trace = %v, %d, want %v", what, got, e, steps)
	}
	runs(t, what, n, x, steps[len(steps)-1].Values)
}

// runs holds Run against the logits that it should answer.
func runs(t *testing.T, what string, n api.Net, x []byte, logits []int64) {
	t.Helper()
	arg := slices.Index(logits, slices.Max(logits))
	if got, e := plain.Run(n, x); e != api.OK || !slices.Equal(got.Logits, logits) || got.Arg != arg {
		t.Errorf("P6.3: %s: Run = %v, %d, want %v, %d", what, got, e, logits, arg)
	}
}

func sameSteps(a, b []api.Step) bool {
	return slices.EqualFunc(a, b, func(a, b api.Step) bool {
		return a.Shape == b.Shape && slices.Equal(a.Values, b.Values)
	})
}

// refused holds the errors of Run and Trace, and that nothing else is told, against what they should be.
func refused(t *testing.T, what string, n api.Net, x []byte, e api.Errno) {
	t.Helper()
	if r, got := plain.Run(n, x); got != e || len(r.Logits) != 0 || r.Arg != 0 {
		t.Errorf("P6.1: %s: Run = %v, %d, want %d", what, r, got, e)
	}
	if steps, got := plain.Trace(n, x); got != e || len(steps) != 0 {
		t.Errorf("P6.1: %s: Trace = %d steps, %d, want %d", what, len(steps), got, e)
	}
}

func TestExamplesOfTheDocument(t *testing.T) {
	pair := of(1, 1, 2)
	answers(t, "3 4", first(), input(3, 4), []api.Step{{Shape: pair, Values: []int64{1, -1}}, {Shape: pair, Values: []int64{1, 3}}})
	answers(t, "-128 127", first(), input(-128, 127), []api.Step{{Shape: pair, Values: []int64{-1, -1}}, {Shape: pair, Values: []int64{-1, 5}}})
	answers(t, "5 5", first(), input(5, 5), []api.Step{{Shape: pair, Values: []int64{1, 1}}, {Shape: pair, Values: []int64{1, 5}}})
	refused(t, "3", first(), input(3), api.ErrInput)
	refused(t, "the zero network", api.Net{}, nil, api.ErrName)
	answers(t, "1 2 3 4", second(), input(1, 2, 3, 4), []api.Step{{Shape: of(2, 2, 1), Values: []int64{1, 1, -1, -1}}, {Shape: of(1, 1, 1), Values: []int64{0}}})
}

// faults are networks that may not be, one or more of each error.
func faults() map[string]api.Net {
	all := map[string]api.Net{"nothing": {}}
	add := func(what string, do func(n *api.Net)) {
		n := mixed()
		do(&n)
		all[what] = n
	}
	add("a name", func(n *api.Net) { n.Name = "a b" })
	add("an input that is none", func(n *api.Net) { n.In.W = 0 })
	add("an input that is too big", func(n *api.Net) { n.In = of(4096, 4096, 2) })
	add("no layers", func(n *api.Net) { n.Layers = nil })
	add("65 layers", func(n *api.Net) { n.Layers = slices.Repeat(n.Layers[:1], 65) })
	add("an LPool first", func(n *api.Net) { n.Layers = n.Layers[1:] })
	add("an LPool last", func(n *api.Net) { n.Layers = n.Layers[:5] })
	add("a kind", func(n *api.Net) { n.Layers[2].Kind = 4 })
	add("a kind below 0", func(n *api.Net) { n.Layers[5].Kind = -1 })
	add("outputs", func(n *api.Net) { n.Layers[2].K = 0 })
	add("a window", func(n *api.Net) { n.Layers[1].Win.StepX = 0 })
	add("a border", func(n *api.Net) { n.Layers[3].Border = 2 })
	add("a window that does not fit", func(n *api.Net) { n.Layers[1].Win.R = 15 })
	add("too few weights", func(n *api.Net) { n.Layers[5].Weights = n.Layers[5].Weights[:23] })
	add("too many weights", func(n *api.Net) { n.Layers[0].Weights = append(n.Layers[0].Weights, 1) })
	add("a weight", func(n *api.Net) { n.Layers[3].Weights[9] = 2 })
	add("too few norms", func(n *api.Net) { n.Layers[0].Norms = n.Layers[0].Norms[:2] })
	add("a norm", func(n *api.Net) { n.Layers[2].Norms[3].S.Num = 0 })
	add("a fraction", func(n *api.Net) { n.Layers[2].Norms[1].B.Den = 0 })
	add("no biases", func(n *api.Net) { n.Layers[5].Biases = nil })
	add("a bias beyond the reach", func(n *api.Net) { n.Layers[5].Biases[2] = api.MaxSum })
	return all
}

// TestFaultsOfTheNetwork: whatever the input's size, the network's own fault is told.
func TestFaultsOfTheNetwork(t *testing.T) {
	for what, n := range faults() {
		_, e := net.Check(n)
		if e == api.OK {
			t.Fatalf("%s: the network may be", what)
		}
		for _, size := range []int{40, 0, 39, 41, 1} {
			refused(t, what, n, make([]byte, size), e)
		}
		refused(t, what, n, nil, e)
	}
}

func TestSizesOfInputs(t *testing.T) {
	single := network(of(1, 1, 1), last(ones(1), 0))
	long := network(of(4096, 3, 2), last(ones(24576), 0))
	for _, n := range []api.Net{first(), second(), mixed(), single, long} {
		want := count(n.In)
		full := make([]byte, 3*want+3)
		for _, size := range []int{0, 1, want - 1, want + 1, 2 * want, len(full)} {
			if size != want {
				refused(t, "an input of another size", n, full[:size], api.ErrInput)
				refused(t, "an input of another size, without room", n, slices.Clone(full[:size]), api.ErrInput)
			}
		}
		refused(t, "no input", n, nil, api.ErrInput)
		answers(t, "an input of its size", n, full[:want], meant(n, full[:want]))
	}
}

// pattern is an input of any size that has bytes of both signs and some of 0.
func pattern(size int) []byte {
	x := make([]byte, size)
	for i := range x {
		x[i] = byte(i*i%251 - i%7)
	}
	return x
}

// signs is an LConv that makes 1 of what is not below 0, for each element its own.
func signs() api.Layer { return conv(point(), 0, ones(1), from(0)) }

// total is how the elements of an input that are not below 0 outweigh the others.
func total(x []byte) int64 {
	sum := int64(0)
	for _, b := range x {
		if b < 128 {
			sum++
		} else {
			sum--
		}
	}
	return sum
}

// TestElementsOfATrace: MaxTrace elements in all may be told, one more may not; Run does not ask for it.
func TestElementsOfATrace(t *testing.T) {
	odd, even, less := of(2047, 2049, 1), of(2048, 2048, 1), of(1024, 1024, 1)
	for _, c := range []struct {
		what string
		n    api.Net
		e    api.Errno
	}{
		{"just MaxTrace", network(odd, signs(), last(ones(1<<22-1), 7)), api.OK},
		{"one more, by the last layer", network(odd, signs(), last(ones(2<<22-2), 7, -7)), api.ErrBig},
		{"one more, by the first", network(even, signs(), last(ones(1<<22), 7)), api.ErrBig},
		{"three layers of a quarter", network(less, signs(), signs(), signs(), last(ones(1<<20), 7)), api.OK},
		{"four layers of a quarter, and one more", network(less, signs(), signs(), signs(), signs(), last(ones(1<<20), 7)), api.ErrBig},
		{"pools count", network(less, signs(), signs(), pool(point()), pool(point()), last(ones(1<<20), 7)), api.ErrBig},
		{"an input of more does not count", network(of(2048, 4096, 1), last(ones(1<<23), 7)), api.OK},
	} {
		x := pattern(count(c.n.In))
		sum := total(x)
		if len(c.n.Layers) == 1 {
			sum = 0
			for _, b := range x {
				sum += int64(int8(b))
			}
		}
		logits := []int64{sum + 7, sum - 7}[:len(c.n.Layers[len(c.n.Layers)-1].Biases)]
		runs(t, c.what, c.n, x, logits)
		steps, e := plain.Trace(c.n, x)
		if e != c.e || e != api.OK && len(steps) != 0 || e == api.OK && !slices.Equal(steps[len(steps)-1].Values, logits) {
			t.Errorf("P6.1: %s: Trace tells %d steps, %d, want %d", c.what, len(steps), e, c.e)
		}
		for _, wrong := range [][]byte{nil, x[1:], append(slices.Clone(x), 0)} {
			refused(t, c.what+", with an input of another size", c.n, wrong, api.ErrInput)
		}
		bad := net.Clone(c.n)
		bad.Layers[len(bad.Layers)-1].Biases = nil
		refused(t, c.what+", and a fault", bad, x, api.ErrBias)
		refused(t, c.what+", a fault, and an input of another size", bad, x[1:], api.ErrBias)
	}
}

// TestShapes: each step has the shape that net.Shapes tells and as many values, 1 and -1 but of the last.
func TestShapes(t *testing.T) {
	d := dice(1)
	for range 300 {
		n := d.network()
		shapes, e := net.Shapes(n)
		steps, eToo := plain.Trace(n, d.input(n))
		if e != api.OK || eToo != api.OK || len(steps) != len(n.Layers) {
			t.Fatalf("P6.2: %d steps of %d layers, %d, %d", len(steps), len(n.Layers), e, eToo)
		}
		for i, s := range steps {
			other := slices.ContainsFunc(s.Values, func(v int64) bool { return v != 1 && v != -1 })
			if s.Shape != shapes[i] || len(s.Values) != count(shapes[i]) || other && i < len(steps)-1 {
				t.Fatalf("P6.2: layer %d: %v, want the shape %v", i, s, shapes[i])
			}
		}
	}
}

// numbers are all whole numbers within v.
func numbers(v reflect.Value) []reflect.Value {
	var all []reflect.Value
	switch v.Kind() {
	case reflect.Struct:
		for i := range v.NumField() {
			all = append(all, numbers(v.Field(i))...)
		}
	case reflect.Slice:
		for i := range v.Len() {
			all = append(all, numbers(v.Index(i))...)
		}
	case reflect.Int, reflect.Int8, reflect.Int64:
		all = append(all, v)
	}
	return all
}

// TestAnyNumbers puts numbers of any size at every place of a network: the answer is net.Check's error, or what the network means.
func TestAnyNumbers(t *testing.T) {
	some := []int64{-1 << 63, -1 << 31, 1 - 1<<31, -2, -1, 0, 1, 2, 3, 4, 5, 14, 15, 16, 4096, 4097, 1 << 20, 1<<31 - 1, 1 << 31, 1<<63 - 1}
	for _, make := range []func() api.Net{first, second, mixed} {
		sample := make()
		for i := range numbers(reflect.ValueOf(&sample).Elem()) {
			for _, v := range some {
				n := make()
				numbers(reflect.ValueOf(&n).Elem())[i].SetInt(v) // an int8 keeps the lowest bits
				x := pattern(count(make().In))
				if _, e := net.Check(n); e != api.OK {
					refused(t, "a number that may not be", n, x, e)
				} else if count(n.In) != len(x) {
					refused(t, "another input", n, x, api.ErrInput)
				} else {
					answers(t, "another number", n, x, meant(n, x))
				}
			}
		}
	}
}
