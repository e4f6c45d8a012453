package bound_test

import (
	"slices"
	"testing"

	"heddle/api"
	"heddle/bound"
	"heddle/frac"
	"heddle/net"
	"heddle/plain"
)

// dice gives numbers that look like any, the same ones in every run of the tests.
type dice uint64

// roll is a number from least to most.
func (d *dice) roll(least, most int) int {
	*d = *d*6364136223846793005 + 1442695040888963407
	return least + int(uint64(*d)>>33)%(most-least+1)
}

// weights are n of -1, 0 and 1.
func (d *dice) weights(n int) []int8 {
	w := make([]int8, n)
	for i := range w {
		w[i] = int8(d.roll(-1, 1))
	}
	return w
}

// norms are k of them, whose answers change among sums of at most about reach in amount.
func (d *dice) norms(k, reach int) []api.Norm {
	var norms []api.Norm
	for range k {
		n := from(int64(d.roll(-reach, reach)))
		n.G.Num, n.B = int64(d.roll(-2, 2)), fr(int64(d.roll(-5, 5)), int64(d.roll(1, 7)))
		norms = append(norms, n)
	}
	return norms
}

func windowed(in api.Shape, w api.Window, k int) api.Shape {
	return of((in.H+w.Top+w.Bottom-w.R)/w.StepY+1, (in.W+w.Left+w.Right-w.S)/w.StepX+1, k)
}

// layer is one that may stand behind what comes in, and its output's shape.
func (d *dice) layer(in api.Shape, begins bool) (api.Layer, api.Shape) {
	kind, k, reach := d.roll(1, 4), d.roll(1, 4), 3
	if begins {
		reach = 200
	}
	if kind == api.LDense {
		return dense(d.weights(k*count(in)), d.norms(k, reach)...), of(1, 1, k)
	}
	if kind == api.LPool && !begins {
		w := win(d.roll(1, min(3, in.H)), d.roll(1, min(3, in.W)), d.roll(1, 3), d.roll(1, 3), 0, 0, 0, 0)
		return pool(w), windowed(in, w, in.C)
	}
	w := win(d.roll(1, min(4, in.H)), d.roll(1, min(4, in.W)), d.roll(1, 3), d.roll(1, 3), d.roll(0, 2), d.roll(0, 2), d.roll(0, 2), d.roll(0, 2))
	border := d.roll(-1, 1)
	if w.Top+w.Left+w.Bottom+w.Right == 0 {
		border = 0
	}
	return conv(w, border, d.weights(k*w.R*w.S*in.C), d.norms(k, reach)...), windowed(in, w, k)
}

// network is one of one to five layers.
func (d *dice) network() api.Net {
	in := of(d.roll(1, 5), d.roll(1, 5), d.roll(1, 4))
	n := network(in)
	for i := range d.roll(0, 4) {
		var l api.Layer
		l, in = d.layer(in, i == 0)
		n.Layers = append(n.Layers, l)
	}
	biases := make([]int64, d.roll(1, 5))
	for i := range biases {
		biases[i] = int64(d.roll(-400, 400))
	}
	n.Layers = append(n.Layers, last(d.weights(len(biases)*count(in)), biases...))
	return n
}

// inputs are some of a network's size: even ones, those at both ends of the reach, any.
func (d *dice) inputs(n api.Net) [][]byte {
	size := count(n.In)
	var all [][]byte
	for _, b := range []byte{0, 1, 127, 128, 255} {
		all = append(all, slices.Repeat([]byte{b}, size))
	}
	for range 3 {
		ends, any := make([]byte, size), make([]byte, size)
		for i := range size {
			ends[i], any[i] = byte(127+d.roll(0, 1)), byte(d.roll(0, 255))
		}
		all = append(all, ends, any)
	}
	return all
}

// seen is what a window sees at a place of the output: the values, and whether none is the border's.
func seen(l api.Layer, in api.Shape, values []int64, y, x int) (list []int64, inside bool) {
	inside = true
	for r := range l.Win.R {
		for s := range l.Win.S {
			row, col := y*l.Win.StepY+r-l.Win.Top, x*l.Win.StepX+s-l.Win.Left
			there := row >= 0 && row < in.H && col >= 0 && col < in.W
			inside = inside && there
			for c := range in.C {
				if there {
					list = append(list, values[(row*in.W+col)*in.C+c])
				} else {
					list = append(list, int64(l.Border))
				}
			}
		}
	}
	return list, inside
}

func dotted(weights []int8, list []int64) int64 {
	sum := int64(0)
	for i, v := range list {
		sum += int64(weights[i]) * v
	}
	return sum
}

// raw is what a layer makes of values ahead of norms: sums with biases, or the greatest of a window; those of an output lie K apart.
func raw(l api.Layer, in, out api.Shape, values []int64) []int64 {
	var list []int64
	for place := range out.H * out.W {
		see := values
		if l.Kind != api.LDense {
			see, _ = seen(l, in, values, place/out.W, place%out.W)
		}
		for k := range out.C {
			if l.Kind == api.LPool {
				most := int64(-1)
				for i := k; i < len(see); i += out.C {
					most = max(most, see[i])
				}
				list = append(list, most)
				continue
			}
			sum := dotted(l.Weights[k*len(see):(k+1)*len(see)], see)
			if len(l.Biases) > 0 {
				sum += l.Biases[k]
			}
			list = append(list, sum)
		}
	}
	return list
}

// raws are those of all layers, to an input. The logits are held against plain's, so that what is meant here is what is meant there.
func raws(t *testing.T, n api.Net, x []byte) [][]int64 {
	t.Helper()
	shapes, e := net.Shapes(n)
	if e != api.OK {
		t.Fatalf("the network may not be: %d", e)
	}
	var values []int64
	for _, b := range x {
		values = append(values, int64(int8(b)))
	}
	in := n.In
	var lists [][]int64
	for i, l := range n.Layers {
		list := raw(l, in, shapes[i], values)
		lists = append(lists, list)
		values = slices.Clone(list)
		for j := range values {
			if len(l.Norms) == 0 {
				continue
			}
			plus, e := frac.Plus(l.Norms[j%l.K], list[j])
			if e != api.OK {
				t.Fatalf("Plus(%v, %d): %d", l.Norms[j%l.K], list[j], e)
			}
			values[j] = -1
			if plus {
				values[j] = 1
			}
		}
		in = shapes[i]
	}
	if r, e := plain.Run(n, x); e != api.OK || !slices.Equal(r.Logits, values) {
		t.Fatalf("the logits %v, %d, not %v", r.Logits, e, values)
	}
	return lists
}

// told is what Net tells of a network that it must not refuse.
func told(t *testing.T, n api.Net) [][]api.Reach {
	t.Helper()
	lists, at, e := bound.Net(n)
	if e != api.OK || at != 0 || len(lists) != len(n.Layers) {
		t.Fatalf("P17.2: Net = %v, %d, %d", lists, at, e)
	}
	return lists
}

// within fails if a sum, a logit or an LPool's element leaves what Net tells.
func within(t *testing.T, n api.Net, lists [][]api.Reach, x []byte) {
	t.Helper()
	for i, list := range raws(t, n, x) {
		for j, v := range list {
			if r := lists[i][j%len(lists[i])]; v < r.Lo || v > r.Hi {
				t.Fatalf("P17.3: the layer %d, the element %d: %d is not within %d to %d", i, j, v, r.Lo, r.Hi)
			}
		}
	}
}

// TestItHolds: no sum and no logit of any input leaves what Net tells.
func TestItHolds(t *testing.T) {
	d := dice(11)
	for range 1500 {
		n := d.network()
		lists := told(t, n)
		for _, x := range d.inputs(n) {
			within(t, n, lists, x)
		}
	}
	for border := -1; border <= 1; border++ {
		n := edge(border)
		for _, x := range d.inputs(n) {
			within(t, n, told(t, n), x)
		}
	}
}

// TestItHoldsOfAllInputs: networks of one and two input elements, and every input.
func TestItHoldsOfAllInputs(t *testing.T) {
	t.Parallel()
	for _, n := range []api.Net{
		network(of(1, 1, 2), last(read("+-0+-0"), 6, 0, -7)),
		network(of(1, 2, 1), conv(win(1, 2, 1, 1, 0, 1, 0, 1), -1, read("+---"), froms(-1, 2)...), last(read("+-+0++"), 3)),
		network(of(2, 1, 1), conv(win(2, 1, 1, 1, 1, 0, 0, 0), 1, read("+-"), from(100)), pool(win(2, 1, 1, 1, 0, 0, 0, 0)), last(read("+0-"), 3, -3, 0)),
	} {
		lists := told(t, n)
		for a := range 256 {
			for b := range 256 {
				within(t, n, lists, []byte{byte(a), byte(b)})
			}
		}
	}
}

// TestItIsMetOfAllInputs: the least and the greatest of all inputs are the ends.
func TestItIsMetOfAllInputs(t *testing.T) {
	t.Parallel()
	for _, n := range []api.Net{
		network(of(1, 1, 2), last(read("+-++--0+-000"), 6, 0, -7, 3, 4, 5)),
		network(of(1, 1, 2), dense(read("+-++--0+-000"), froms(0, 0, 0, 0, 0, 0)...), last(read("000000"), 1)),
		network(of(2, 1, 1), conv(win(2, 1, 1, 1, 0, 0, 0, 0), 0, read("+-++--0+-000"), froms(0, 0, 0, 0, 0, 0)...), last(read("000000"), 1)),
	} {
		list := told(t, n)[0]
		got := make([]api.Reach, len(list))
		for a := range 256 {
			for b := range 256 {
				for k, v := range raws(t, n, []byte{byte(a), byte(b)})[0] {
					if a+b == 0 {
						got[k] = reach(v, v)
					}
					got[k] = reach(min(got[k].Lo, v), max(got[k].Hi, v))
				}
			}
		}
		if !slices.Equal(got, list) {
			t.Errorf("P17.4: all inputs give %v, and Net tells %v", got, list)
		}
	}
}

// pushed is an input that brings the output k of an LDense, or of an LConv at a place, to its least or greatest sum: plus is what stands for a plus, minus for a minus.
func pushed(l api.Layer, in api.Shape, place, wide, k int, plus, minus byte) []byte {
	x := make([]byte, count(in))
	fan := len(l.Weights) / l.K
	at := make([]int64, len(x)) // each element's own number, so that a window tells which ones it sees
	for i := range at {
		at[i] = int64(i)
	}
	if l.Kind == api.LConv {
		at, _ = seen(l, in, at, place/wide, place%wide)
	}
	for i, w := range l.Weights[k*fan : (k+1)*fan] {
		switch w {
		case 1:
			x[at[i]] = plus
		case -1:
			x[at[i]] = minus
		}
	}
	return x
}

// met fails unless both ends of each output of the first layer are met by an input at a place.
func met(t *testing.T, n api.Net, place int) {
	t.Helper()
	shapes, _ := net.Shapes(n)
	l := n.Layers[0]
	for k, r := range told(t, n)[0] {
		j := place*l.K + k
		low := raws(t, n, pushed(l, n.In, place, shapes[0].W, k, 128, 127))[0][j]
		high := raws(t, n, pushed(l, n.In, place, shapes[0].W, k, 127, 128))[0][j]
		if low != r.Lo || high != r.Hi {
			t.Errorf("P17.4: %+v: the output %d is from %d to %d, and Net tells %d to %d", l.Win, k, low, high, r.Lo, r.Hi)
		}
	}
}

// TestItIsMet: by an LDense, first, and first and last.
func TestItIsMet(t *testing.T) {
	d := dice(12)
	for range 300 {
		in := of(d.roll(1, 5), d.roll(1, 5), d.roll(1, 4))
		met(t, network(in, dense(d.weights(3*count(in)), d.norms(3, 99)...), last(d.weights(3), 1)), 0)
		met(t, network(in, last(d.weights(3*count(in)), int64(d.roll(-999, 999)), 0, 2e9)), 0)
	}
}

// TestItIsMetByLogits: where the first layer is the last one, by what plain answers.
func TestItIsMetByLogits(t *testing.T) {
	d := dice(13)
	for range 300 {
		in := of(d.roll(1, 5), d.roll(1, 5), d.roll(1, 4))
		n := network(in, last(d.weights(2*count(in)), int64(d.roll(-9999, 9999)), int64(d.roll(-9999, 9999))))
		for k, r := range told(t, n)[0] {
			low, e := plain.Run(n, pushed(n.Layers[0], in, 0, 1, k, 128, 127))
			high, eToo := plain.Run(n, pushed(n.Layers[0], in, 0, 1, k, 127, 128))
			if e != api.OK || eToo != api.OK || low.Logits[k] != r.Lo || high.Logits[k] != r.Hi {
				t.Errorf("P17.4: the logit %d is from %d to %d, and Net tells %d to %d", k, low.Logits[k], high.Logits[k], r.Lo, r.Hi)
			}
		}
	}
}

// TestItIsMetByConvolutions: at every place that sees no border, without borders and with them.
func TestItIsMetByConvolutions(t *testing.T) {
	d := dice(14)
	without, bordered, none := 0, 0, 0
	for range 1500 {
		in := of(d.roll(1, 4), d.roll(1, 4), d.roll(1, 3))
		l, out := d.layer(in, true)
		if l.Kind != api.LConv {
			continue
		}
		n := network(in, l, last(make([]int8, count(out)), 0))
		found := false
		for place := range out.H * out.W {
			if _, inside := seen(l, in, make([]int64, count(in)), place/out.W, place%out.W); inside {
				met(t, n, place)
				found = true
			}
		}
		switch {
		case !found:
			none++
		case l.Win.Top+l.Win.Left+l.Win.Bottom+l.Win.Right == 0:
			without++
		default:
			bordered++
		}
	}
	if without < 5 || bordered < 100 || none < 10 {
		t.Errorf("%d LConvs without borders, %d with some, %d of which all places see one", without, bordered, none)
	}
}
