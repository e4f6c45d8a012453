package bound_test

import (
	"reflect"
	"slices"
	"strings"
	"testing"

	"heddle/api"
	"heddle/bound"
	"heddle/net"
)

func fr(num, den int64) api.Frac { return api.Frac{Num: num, Den: den} }

// from is the norm that makes sums from t on plus.
func from(t int64) api.Norm { return api.Norm{G: fr(1, 1), B: fr(0, 1), M: fr(t, 1), S: fr(1, 1)} }

// froms are the norms that make sums from each of them on plus.
func froms(ts ...int64) []api.Norm {
	var norms []api.Norm
	for _, t := range ts {
		norms = append(norms, from(t))
	}
	return norms
}

// win is a window: its size, its steps, its borders (Top Left Bottom Right).
func win(r, s, y, x, top, left, bottom, right int) api.Window {
	return api.Window{R: r, S: s, StepY: y, StepX: x, Top: top, Left: left, Bottom: bottom, Right: right}
}

// point is the window of a single place.
func point() api.Window { return win(1, 1, 1, 1, 0, 0, 0, 0) }

// conv is an LConv with an output for each norm.
func conv(w api.Window, border int, weights []int8, norms ...api.Norm) api.Layer {
	return api.Layer{Kind: api.LConv, Weight: api.Ternary, K: len(norms), Win: w, Border: border, Weights: weights, Norms: norms}
}

// dense is an LDense with an output for each norm.
func dense(weights []int8, norms ...api.Norm) api.Layer {
	return api.Layer{Kind: api.LDense, Weight: api.Ternary, K: len(norms), Weights: weights, Norms: norms}
}

// last is an LDense with an output for each bias.
func last(weights []int8, biases ...int64) api.Layer {
	return api.Layer{Kind: api.LDense, Weight: api.Ternary, K: len(biases), Weights: weights, Biases: biases}
}

func pool(w api.Window) api.Layer { return api.Layer{Kind: api.LPool, Win: w} }

func of(h, w, c int) api.Shape { return api.Shape{H: h, W: w, C: c} }

func count(s api.Shape) int { return s.H * s.W * s.C }

func network(in api.Shape, layers ...api.Layer) api.Net {
	return api.Net{Name: "n", In: in, Layers: layers}
}

// mixed has a layer of each kind in the midst, and layers behind an LDense.
func mixed() api.Net {
	d := dice(7)
	return network(of(5, 4, 2),
		conv(win(2, 3, 1, 1, 1, 0, 0, 2), -1, d.weights(3*12), froms(-3, 0, 40)...),
		pool(win(2, 2, 2, 1, 0, 0, 0, 0)),
		dense(d.weights(4*18), froms(-1, 0, 1, 2)...),
		conv(win(1, 2, 1, 2, 1, 1, 0, 2), 1, d.weights(2*8), froms(0, 1)...),
		pool(point()),
		last(d.weights(3*8), 3, -4, 0))
}

func sameReaches(a, b [][]api.Reach) bool {
	return slices.EqualFunc(a, b, slices.Equal[[]api.Reach])
}

// tells holds Net against what it should answer.
func tells(t *testing.T, what string, n api.Net, want [][]api.Reach) {
	t.Helper()
	if l, at, e := bound.Net(n); e != api.OK || at != 0 || !sameReaches(l, want) {
		t.Errorf("P17.2: %s: Net = %v, %d, %d, want %v", what, l, at, e, want)
	}
}

// refused holds Net's error and its layer against what they should be, and that nothing else is told.
func refused(t *testing.T, what string, n api.Net, at int, e api.Errno) {
	t.Helper()
	if l, gotAt, got := bound.Net(n); len(l) != 0 || gotAt != at || got != e {
		t.Errorf("P17.2: %s: Net = %v, %d, %d, want %d, %d", what, l, gotAt, got, at, e)
	}
}

// meant is what the document says of a network that may be.
func meant(t *testing.T, n api.Net) [][]api.Reach {
	t.Helper()
	shapes, e := net.Shapes(n)
	if e != api.OK {
		t.Fatalf("the network may not be: %d", e)
	}
	var lists [][]api.Reach
	for i, l := range n.Layers {
		x := reach(-1, 1)
		if i == 0 {
			x = reach(-128, 127)
		}
		var list []api.Reach
		for k := range shapes[i].C {
			if l.Kind == api.LPool {
				list = append(list, reach(-1, 1))
				continue
			}
			fan := len(l.Weights) / shapes[i].C
			r, e := meantRow(l.Weights[k*fan:(k+1)*fan], x)
			if e != api.OK {
				t.Fatalf("the output %d of the layer %d: %d", k, i, e)
			}
			if i == len(n.Layers)-1 {
				r = reach(r.Lo+l.Biases[k], r.Hi+l.Biases[k])
			}
			list = append(list, r)
		}
		lists = append(lists, list)
	}
	return lists
}

// TestLayersOfEachKind: first, last and between.
func TestLayersOfEachKind(t *testing.T) {
	square := win(2, 2, 1, 1, 0, 0, 0, 0)
	for _, c := range []struct {
		what string
		n    api.Net
		want [][]api.Reach
	}{
		{"an LDense alone", network(of(1, 2, 2), last(read("+++-"), 0)), [][]api.Reach{{reach(-3*128-127, 3*127+128)}}},
		{"an LDense first and last", network(of(1, 1, 2), dense(read("+-0+"), froms(0, 0)...), last(read("++-0"), 0, 0)), [][]api.Reach{{reach(-255, 255), reach(-128, 127)}, {reach(-2, 2), reach(-1, 1)}}},
		{"an LConv first", network(of(2, 2, 1), conv(square, 0, read("+++---0-"), froms(0, 0)...), last(read("+-"), 0)), [][]api.Reach{{reach(-3*128-127, 3*127+128), reach(-3*127, 3*128)}, {reach(-2, 2)}}},
		{"an LConv between", network(of(1, 1, 1), dense(read("-"), from(0)), conv(win(2, 2, 1, 1, 1, 1, 1, 1), -1, read("++0--+++"), froms(0, 0)...), last(read("++++0000"), 0)), [][]api.Reach{{reach(-127, 128)}, {reach(-3, 3), reach(-4, 4)}, {reach(-4, 4)}}},
		{"an LDense between", network(of(1, 1, 1), conv(point(), 0, read("+"), from(0)), dense(read("+-0"), froms(0, 0, 0)...), last(read("+-+"), 0)), [][]api.Reach{{reach(-128, 127)}, {reach(-1, 1), reach(-1, 1), reach(0, 0)}, {reach(-3, 3)}}},
		{"an LPool behind an LConv", network(of(2, 2, 1), conv(point(), 0, read("+-0"), froms(0, 0, 0)...), pool(square), last(read("+0-"), 0)), [][]api.Reach{{reach(-128, 127), reach(-127, 128), reach(0, 0)}, {reach(-1, 1), reach(-1, 1), reach(-1, 1)}, {reach(-2, 2)}}},
		{"an LPool behind an LDense", network(of(1, 1, 2), dense(read("++--"), froms(0, 0)...), pool(point()), last(read("-+"), 0)), [][]api.Reach{{reach(-256, 254), reach(-254, 256)}, {reach(-1, 1), reach(-1, 1)}, {reach(-2, 2)}}},
		{"an LPool behind an LPool", network(of(3, 3, 1), conv(point(), 0, read("+-"), froms(0, 0)...), pool(square), pool(square), last(read("-+00"), 0, 0)), [][]api.Reach{{reach(-128, 127), reach(-127, 128)}, {reach(-1, 1), reach(-1, 1)}, {reach(-1, 1), reach(-1, 1)}, {reach(-2, 2), reach(0, 0)}}},
		{"an LConv behind an LPool", network(of(2, 2, 1), conv(point(), 0, read("+-"), froms(0, 0)...), pool(square), conv(point(), 0, read("+--000"), froms(0, 0, 0)...), last(read("+++"), 0)), [][]api.Reach{{reach(-128, 127), reach(-127, 128)}, {reach(-1, 1), reach(-1, 1)}, {reach(-2, 2), reach(-1, 1), reach(0, 0)}, {reach(-3, 3)}}},
	} {
		tells(t, c.what, c.n, c.want)
		tells(t, c.what, c.n, meant(t, c.n))
	}
}

// TestBiases: a bias moves both ends of the last layer, of no other one.
func TestBiases(t *testing.T) {
	for _, b := range []int64{0, 1, -1, 4, -4, 5, -5, 1000, -1000, most - 2*128, 2*128 - most} {
		n := network(of(1, 1, 2), last(read("++-+000-"), b, -b, b, -b))
		tells(t, "biases", n, [][]api.Reach{{reach(-256+b, 254+b), reach(-255-b, 255-b), reach(b, b), reach(-127-b, 128-b)}})
		n = network(of(1, 1, 2), dense(read("++00"), froms(0, 0)...), last(read("++-+000-"), b, -b, b, -b))
		tells(t, "biases behind a layer", n, [][]api.Reach{{reach(-256, 254), reach(0, 0)}, {reach(-2+b, 2+b), reach(-2-b, 2-b), reach(b, b), reach(-1-b, 1-b)}})
	}
}

// TestNothing: outputs whose weights are all nothing, in each kind of layer.
func TestNothing(t *testing.T) {
	n := network(of(2, 2, 2), conv(point(), 0, make([]int8, 6), froms(-1, 0, 1)...), pool(win(2, 2, 1, 1, 0, 0, 0, 0)), dense(make([]int8, 6), froms(0, 1)...), last(make([]int8, 6), 7, -9, 0))
	zero := reach(0, 0)
	tells(t, "nothing", n, [][]api.Reach{{zero, zero, zero}, {reach(-1, 1), reach(-1, 1), reach(-1, 1)}, {zero, zero}, {reach(7, 7), reach(-9, -9), zero}})
	tells(t, "nothing in one layer", network(of(1, 1, 3), last(make([]int8, 6), most-3*128, 3*128-most)), [][]api.Reach{{reach(most-3*128, most-3*128), reach(3*128-most, 3*128-most)}})
}

// TestBorders: what stands in a border, and how wide it is, changes nothing.
func TestBorders(t *testing.T) {
	weights := read("++-0+--+0" + "+++0++-+0")
	for border := -1; border <= 1; border++ {
		for _, w := range []api.Window{win(3, 3, 1, 1, 1, 1, 1, 1), win(3, 3, 1, 1, 14, 14, 14, 14), win(3, 3, 1, 1, 0, 0, 0, 1), win(3, 3, 2, 15, 1, 0, 0, 0), win(3, 3, 15, 15, 2, 2, 0, 0)} {
			out := of((3+w.Top+w.Bottom-3)/w.StepY+1, (3+w.Left+w.Right-3)/w.StepX+1, 2)
			n := network(of(3, 3, 1), conv(w, border, weights, froms(0, 0)...), last(make([]int8, count(out)), 0))
			tells(t, "a border in the first layer", n, [][]api.Reach{{reach(-4*128-3*127, 4*127+3*128), reach(-6*128-1*127, 6*127+1*128)}, {reach(0, 0)}})
			n = network(of(3, 3, 1), conv(point(), 0, read("+"), from(0)), conv(w, border, weights, froms(0, 0)...), last(make([]int8, count(out)), 0))
			tells(t, "a border in the second layer", n, [][]api.Reach{{reach(-128, 127)}, {reach(-7, 7), reach(-7, 7)}, {reach(0, 0)}})
		}
	}
}

// TestAnyNetworks: networks of all sorts.
func TestAnyNetworks(t *testing.T) {
	d := dice(17)
	for range 2000 {
		n := d.network()
		tells(t, "any network", n, meant(t, n))
	}
	tells(t, "mixed", mixed(), meant(t, mixed()))
}

// TestManyLayersAndOutputs: as many of each as there may be.
func TestManyLayersAndOutputs(t *testing.T) {
	n := network(of(1, 1, 3), conv(point(), 0, read("++-"), from(0)))
	want := [][]api.Reach{{reach(-2*128-127, 2*127+128)}}
	for i := range 62 {
		l := []api.Layer{conv(point(), 0, read("-"), from(0)), dense(read("0"), from(0)), pool(point())}[i%3]
		n.Layers = append(n.Layers, l)
		want = append(want, []api.Reach{[]api.Reach{reach(-1, 1), reach(0, 0), reach(-1, 1)}[i%3]})
	}
	n.Layers = append(n.Layers, last(read("+"), 9))
	tells(t, "64 layers", n, append(want, []api.Reach{reach(8, 10)}))

	d := dice(3)
	norms := slices.Repeat(froms(0), 4096)
	n = network(of(1, 1, 3), conv(point(), 0, d.weights(3*4096), norms...), pool(point()), dense(d.weights(2*4096), froms(0, 0)...), last(d.weights(2*4096), slices.Repeat([]int64{-3}, 4096)...))
	tells(t, "4096 outputs", n, meant(t, n))
}

// TestGreatestSums: as many weights as there may be, with biases that bring the ends just to MaxSum.
func TestGreatestSums(t *testing.T) {
	const n = 1<<24 - 1
	in := of(241, 4095, 17)
	plus, minus := slices.Repeat([]int8{1}, n), slices.Repeat([]int8{-1}, n)
	for _, b := range []int64{127, 0, -127} {
		tells(t, "pluses", network(in, last(plus, b)), [][]api.Reach{{reach(-128*n+b, 127*n+b)}})
		tells(t, "minuses", network(in, last(minus, b)), [][]api.Reach{{reach(-127*n+b, 128*n+b)}})
	}
	if 128*n+127 != most {
		t.Error("the ends are not at MaxSum")
	}
	refused(t, "one beyond", network(in, last(minus, 128)), 0, api.ErrReach)
	refused(t, "one beyond, below 0", network(in, last(plus, -128)), 0, api.ErrReach)
	refused(t, "a weight more", network(of(4096, 4096, 1), last(slices.Repeat([]int8{1}, n+1), 0)), 0, api.ErrReach)
	const half = 1 << 23
	point := conv(point(), 0, read("+"), from(0))
	ends := network(of(4096, 2048, 1), point, last(plus[:half], most-half))
	tells(t, "behind a layer", ends, [][]api.Reach{{reach(-128, 127)}, {reach(most-2*half, most)}})
	ends.Layers[1].Biases[0] = half - most
	tells(t, "behind a layer, below 0", ends, [][]api.Reach{{reach(-128, 127)}, {reach(-most, 2*half-most)}})
	ends.Layers[1].Biases[0]--
	refused(t, "behind a layer, one beyond", ends, 1, api.ErrReach)
}

// TestNeverAboveMaxSum: of networks with biases as great as they may be.
func TestNeverAboveMaxSum(t *testing.T) {
	d := dice(5)
	for range 1000 {
		n := d.network()
		end := n.Layers[len(n.Layers)-1]
		m := int64(1)
		if len(n.Layers) == 1 {
			m = 128
		}
		room := most - m*int64(len(end.Weights)/end.K)
		for k := range end.Biases {
			end.Biases[k] = []int64{room, -room}[d.roll(0, 1)]
		}
		lists, at, e := bound.Net(n)
		if e != api.OK || at != 0 || !sameReaches(lists, meant(t, n)) {
			t.Fatalf("P17.2: Net = %v, %d, %d", lists, at, e)
		}
		for _, r := range slices.Concat(lists...) {
			if r.Lo < -most || r.Hi > most || r.Lo > r.Hi {
				t.Errorf("P17.5: %d to %d", r.Lo, r.Hi)
			}
		}
	}
}

// TestFaultsOfTheNetwork: each error, with its layer.
func TestFaultsOfTheNetwork(t *testing.T) {
	refused(t, "the zero network", api.Net{}, -1, api.ErrName)
	for _, c := range []struct {
		what string
		do   func(n *api.Net)
		at   int
		e    api.Errno
	}{
		{"no name", func(n *api.Net) { n.Name = "" }, -1, api.ErrName},
		{"a name", func(n *api.Net) { n.Name = "a b" }, -1, api.ErrName},
		{"a long name", func(n *api.Net) { n.Name = strings.Repeat("x", 33) }, -1, api.ErrName},
		{"an input that is none", func(n *api.Net) { n.In.W = 0 }, -1, api.ErrShape},
		{"an input that is too big", func(n *api.Net) { n.In = of(4096, 4096, 2) }, -1, api.ErrBig},
		{"no layers", func(n *api.Net) { n.Layers = nil }, -1, api.ErrLayers},
		{"65 layers", func(n *api.Net) { n.Layers = slices.Repeat(n.Layers[:1], 65) }, -1, api.ErrLayers},
		{"an LPool first", func(n *api.Net) { n.Layers = n.Layers[1:] }, 0, api.ErrLayers},
		{"an LPool last", func(n *api.Net) { n.Layers = n.Layers[:5] }, 4, api.ErrLayers},
		{"an LConv last", func(n *api.Net) { n.Layers = n.Layers[:4] }, 3, api.ErrLayers},
		{"a kind", func(n *api.Net) { n.Layers[2].Kind = 4 }, 2, api.ErrLayers},
		{"a kind below 0", func(n *api.Net) { n.Layers[5].Kind = -1 }, 5, api.ErrLayers},
		{"no kind", func(n *api.Net) { n.Layers[0].Kind = 0 }, 0, api.ErrLayers},
		{"no outputs", func(n *api.Net) { n.Layers[2].K = 0 }, 2, api.ErrShape},
		{"outputs below 0", func(n *api.Net) { n.Layers[5].K = -3 }, 5, api.ErrShape},
		{"an LPool with outputs", func(n *api.Net) { n.Layers[1].K = 3 }, 1, api.ErrLayers},
		{"an LPool with weights", func(n *api.Net) { n.Layers[4].Weights = read("+") }, 4, api.ErrLayers},
		{"an LDense with a window", func(n *api.Net) { n.Layers[2].Win = point() }, 2, api.ErrLayers},
		{"a step", func(n *api.Net) { n.Layers[1].Win.StepX = 0 }, 1, api.ErrWindow},
		{"a border", func(n *api.Net) { n.Layers[3].Border = 2 }, 3, api.ErrWindow},
		{"a window that does not fit", func(n *api.Net) { n.Layers[1].Win.R = 15 }, 1, api.ErrFit},
		{"a kind of weights", func(n *api.Net) { n.Layers[0].Weight = 3 }, 0, api.ErrWeight},
		{"too few weights", func(n *api.Net) { n.Layers[5].Weights = n.Layers[5].Weights[:23] }, 5, api.ErrWeight},
		{"too many weights", func(n *api.Net) { n.Layers[0].Weights = append(n.Layers[0].Weights, 1) }, 0, api.ErrWeight},
		{"no weights", func(n *api.Net) { n.Layers[2].Weights = nil }, 2, api.ErrWeight},
		{"a weight", func(n *api.Net) { n.Layers[3].Weights[9] = 2 }, 3, api.ErrWeight},
		{"nothing in Binary", func(n *api.Net) { n.Layers[5].Weight, n.Layers[5].Weights[7] = api.Binary, 0 }, 5, api.ErrWeight},
		{"too few norms", func(n *api.Net) { n.Layers[0].Norms = n.Layers[0].Norms[:2] }, 0, api.ErrNorm},
		{"a norm", func(n *api.Net) { n.Layers[2].Norms[3].S.Num = 0 }, 2, api.ErrNorm},
		{"a fraction", func(n *api.Net) { n.Layers[2].Norms[1].B.Den = 0 }, 2, api.ErrNorm},
		{"a bias too early", func(n *api.Net) { n.Layers[3].Biases = []int64{1, 2} }, 3, api.ErrNorm},
		{"no biases", func(n *api.Net) { n.Layers[5].Biases = nil }, 5, api.ErrBias},
		{"a bias too many", func(n *api.Net) { n.Layers[5].Biases = append(n.Layers[5].Biases, 1) }, 5, api.ErrBias},
		{"norms at the end", func(n *api.Net) { n.Layers[5].Norms = froms(0, 0, 0) }, 5, api.ErrBias},
		{"a bias beyond the reach", func(n *api.Net) { n.Layers[5].Biases[2] = most - 7 }, 5, api.ErrReach},
		{"a bias beyond the reach, below 0", func(n *api.Net) { n.Layers[5].Biases[0] = -1 << 63 }, 5, api.ErrReach},
		{"two faults", func(n *api.Net) { n.Layers[5].Biases, n.Layers[2].K = nil, 0 }, 2, api.ErrShape},
	} {
		n := mixed()
		c.do(&n)
		if at, e := net.Check(n); at != c.at || e != c.e {
			t.Fatalf("%s: net.Check tells %d, %d", c.what, at, e)
		}
		refused(t, c.what, n, c.at, c.e)
	}
}

// numbers are all whole numbers within v.
func numbers(v reflect.Value) []reflect.Value {
	var all []reflect.Value
	switch v.Kind() {
	case reflect.Struct:
		for i := range v.NumField() {
			all = append(all, numbers(v.Field(i))...)
		}
	case reflect.Slice:
		for i := range v.Len() {
			all = append(all, numbers(v.Index(i))...)
		}
	case reflect.Int, reflect.Int8, reflect.Int64:
		all = append(all, v)
	}
	return all
}

// TestAnyNumbers puts numbers of any size at every place of a network: the answer is net.Check's, or what the network means.
func TestAnyNumbers(t *testing.T) {
	some := []int64{-1 << 63, -1 << 31, 1 - 1<<31, -2, -1, 0, 1, 2, 3, 4, 5, 14, 15, 16, 4096, 4097, 1 << 20, 1<<31 - 1, 1 << 31, 1<<63 - 1}
	sample := mixed()
	for i := range numbers(reflect.ValueOf(&sample).Elem()) {
		for _, v := range some {
			n := mixed()
			numbers(reflect.ValueOf(&n).Elem())[i].SetInt(v) // an int8 keeps the lowest bits
			if at, e := net.Check(n); e != api.OK {
				refused(t, "a number that may not be", n, at, e)
			} else {
				tells(t, "another number", n, meant(t, n))
			}
		}
	}
}
