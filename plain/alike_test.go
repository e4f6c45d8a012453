package plain_test

import (
	"slices"
	"testing"

	"heddle/api"
	"heddle/net"
	"heddle/plain"
)

// fanIn is how many weights each output of a layer has.
func fanIn(l api.Layer) int { return len(l.Weights) / l.K }

// turn turns the weights of some outputs of a layer, and their norms.
func turn(n api.Net, layer int, outputs []int) api.Net {
	n = net.Clone(n)
	l := n.Layers[layer]
	for _, k := range outputs {
		for i := k * fanIn(l); i < (k+1)*fanIn(l); i++ {
			l.Weights[i] = -l.Weights[i]
		}
		l.Norms[k].G.Num = -l.Norms[k].G.Num
		l.Norms[k].M.Num = -l.Norms[k].M.Num
	}
	return n
}

// picked are the numbers of the bits that are set.
func picked(mask int) []int {
	var all []int
	for i := range 8 {
		if mask>>i&1 == 1 {
			all = append(all, i)
		}
	}
	return all
}

// tracesAlike holds two networks' traces, each of its own input, against each other.
func tracesAlike(t *testing.T, what string, a, b api.Net, x, y []byte) {
	t.Helper()
	one, e := plain.Trace(a, x)
	two, eToo := plain.Trace(b, y)
	if e != api.OK || eToo != api.OK || !sameSteps(one, two) {
		t.Fatalf("P6.4: %s: %v, %d, and %v, %d", what, one, e, two, eToo)
	}
}

// runsAlike holds two networks' answers, each to its own input, against each other.
func runsAlike(t *testing.T, what string, a, b api.Net, x, y []byte) {
	t.Helper()
	one, e := plain.Run(a, x)
	two, eToo := plain.Run(b, y)
	if e != api.OK || eToo != api.OK || one.Arg != two.Arg || len(one.Logits) == 0 || !slices.Equal(one.Logits, two.Logits) {
		t.Fatalf("P6.4: %s: %v, %d, and %v, %d", what, one, e, two, eToo)
	}
}

// TestOutputsTurned turns every choice of the outputs of every layer.
func TestOutputsTurned(t *testing.T) {
	d := dice(4)
	for range 300 {
		n := d.network()
		x := d.input(n)
		for i, l := range n.Layers[:len(n.Layers)-1] {
			if l.Kind == api.LPool {
				continue
			}
			for mask := range 1 << l.K {
				tracesAlike(t, "outputs turned", n, turn(n, i, picked(mask)), x, x)
			}
		}
	}
	for v := range 256 {
		for b := -2; b <= 2; b++ {
			norm := api.Norm{G: fr(-3, 2), B: fr(int64(b), 1), M: fr(5, 4), S: fr(2, 1)}
			n := network(of(1, 1, 1), dense([]int8{1, -1, 0}, norm, norm, norm), last(ones(3), 0))
			for mask := range 8 {
				x := []byte{byte(v)}
				tracesAlike(t, "outputs turned", n, turn(n, 0, picked(mask)), x, x)
			}
		}
	}
}

// reorder puts the outputs of a layer in another order, and the weights behind them.
func reorder(n api.Net, layer int, order []int) api.Net {
	was, n := n, net.Clone(n)
	old, l := was.Layers[layer], n.Layers[layer]
	for k, from := range order {
		copy(l.Weights[k*fanIn(l):(k+1)*fanIn(l)], old.Weights[from*fanIn(l):])
		l.Norms[k] = old.Norms[from]
	}
	next := layer + 1
	for n.Layers[next].Kind == api.LPool {
		next++
	}
	// Of both kinds the weights of a place's channels lie together, channel by channel.
	for i := range n.Layers[next].Weights {
		place, c := i/l.K, i%l.K
		n.Layers[next].Weights[i] = was.Layers[next].Weights[place*l.K+order[c]]
	}
	return n
}

// orders are all orders of k things.
func orders(k int) [][]int {
	if k == 0 {
		return [][]int{nil}
	}
	var all [][]int
	for _, o := range orders(k - 1) {
		for at := range k {
			all = append(all, slices.Insert(slices.Clone(o), at, k-1))
		}
	}
	return all
}

// TestOutputsInAnotherOrder tries all orders of the outputs of every layer.
func TestOutputsInAnotherOrder(t *testing.T) {
	d := dice(5)
	for range 300 {
		n := d.network()
		x := d.input(n)
		for i, l := range n.Layers[:len(n.Layers)-1] {
			if l.Kind == api.LPool {
				continue
			}
			for _, o := range orders(l.K) {
				runsAlike(t, "outputs in another order", n, reorder(n, i, o), x, x)
			}
		}
	}
}

// TestOutputsInAnotherOrderBehindPools has LPools between, and each kind of layer behind them.
func TestOutputsInAnotherOrderBehindPools(t *testing.T) {
	d := dice(6)
	for range 20 {
		ahead := conv(win(2, 2, 1, 1, 0, 0, 0, 0), 0, d.weights(4*4), d.norms(4, 99)...)
		for _, n := range []api.Net{
			network(of(5, 5, 1), ahead, pool(win(2, 2, 1, 1, 0, 0, 0, 0)), last(d.weights(3*36), 0, 1, 2)),
			network(of(5, 5, 1), ahead, pool(win(2, 1, 1, 1, 0, 0, 0, 0)), pool(win(1, 2, 2, 1, 0, 0, 0, 0)), last(d.weights(2*24), 0, 0)),
			network(of(5, 5, 1), ahead, pool(win(2, 2, 2, 2, 0, 0, 0, 0)), conv(win(2, 2, 1, 1, 1, 1, 1, 1), -1, d.weights(2*16), d.norms(2, 4)...), last(d.weights(18), 0)),
		} {
			x := d.input(n)
			for _, o := range orders(4) {
				runsAlike(t, "outputs in another order, with an LPool between", n, reorder(n, 0, o), x, x)
			}
		}
	}
}

// layOut is a network without the borders of its first layer, and the input with them laid around it.
func layOut(n api.Net, x []byte) (api.Net, []byte) {
	n = net.Clone(n)
	l, in := &n.Layers[0], n.In
	w := l.Win
	n.In = of(in.H+w.Top+w.Bottom, in.W+w.Left+w.Right, in.C)
	out := slices.Repeat([]byte{byte(l.Border)}, count(n.In))
	for i, b := range x {
		y, x, c := i/in.C/in.W, i/in.C%in.W, i%in.C
		out[((y+w.Top)*n.In.W+x+w.Left)*in.C+c] = b
	}
	l.Border, l.Win.Top, l.Win.Left, l.Win.Bottom, l.Win.Right = 0, 0, 0, 0, 0
	return n, out
}

// TestBordersLaidOut lays borders of each number and of all widths around the input.
func TestBordersLaidOut(t *testing.T) {
	d := dice(8)
	laid := 0
	for range 600 {
		n := d.network()
		if n.Layers[0].Kind != api.LConv {
			continue
		}
		x := d.input(n)
		flat, y := layOut(n, x)
		runsAlike(t, "a border laid out", n, flat, x, y)
		tracesAlike(t, "a border laid out", n, flat, x, y)
		laid++
	}
	if laid < 100 {
		t.Errorf("only %d networks begin with an LConv", laid)
	}
	for border := -1; border <= 1; border++ {
		for side := range 4 {
			for _, width := range []int{1, 3, 14} {
				widths := [4]int{}
				widths[side] = width
				w := win(3, 2, 2, 1, widths[0], widths[1], widths[2], widths[3])
				out := windowed(of(4, 3, 2), w, 3)
				n := network(of(4, 3, 2), conv(w, border, d.weights(36), d.norms(3, 99)...), last(d.weights(count(out)), 0))
				x := d.input(n)
				flat, y := layOut(n, x)
				runsAlike(t, "a border laid out on one side", n, flat, x, y)
			}
		}
	}
}

// TestLongestBorderLaidOut: the tensor with its borders is as long as a shape may be.
func TestLongestBorderLaidOut(t *testing.T) {
	d := dice(9)
	for _, in := range []api.Shape{of(4096-28, 2, 1), of(2, 4096-28, 1)} {
		w := win(1, 1, 1, 1, 14, 0, 14, 0)
		if in.W > in.H {
			w = win(1, 1, 1, 1, 0, 14, 0, 14)
		}
		n := network(in, conv(w, 1, ones(1), from(1)), last(d.weights(2*4096), 0))
		x := d.input(n)
		flat, y := layOut(n, x)
		runsAlike(t, "the longest border laid out", n, flat, x, y)
	}
}
