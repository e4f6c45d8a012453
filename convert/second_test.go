package convert_test

import (
	"math/big"
	"sort"
	"testing"

	"heddle/api"
	"heddle/dot"
	"heddle/fold"
	"heddle/patch"
)

// A second reading of the document. meant packs a network bit by bit, and looks for each threshold among all sums; called asks the calls that the chapter names.

// outOf is the shape behind a layer that may be.
func outOf(l api.Layer, in api.Shape) api.Shape {
	w := l.Win
	if l.Kind == api.LDense {
		return of(1, 1, l.K)
	}
	out := of((in.H+w.Top+w.Bottom-w.R)/w.StepY+1, (in.W+w.Left+w.Right-w.S)/w.StepX+1, in.C)
	if l.Kind == api.LConv {
		out.C = l.K
	}
	return out
}

// meant is the model that a network that may be is to become.
func meant(n api.Net) api.Model {
	m := api.Model{Name: n.Name, In: n.In}
	in := n.In
	for _, l := range n.Layers {
		p := api.Pack{Kind: l.Kind, Weight: l.Weight, K: l.K, Win: l.Win, Border: l.Border, Biases: append([]int64(nil), l.Biases...)}
		for k := range l.K {
			if l.Kind == api.LConv {
				p.Rows = append(p.Rows, meantPatch(l, in.C, k))
			} else {
				p.Rows = append(p.Rows, meantRow(l, count(in), k))
			}
		}
		for _, x := range l.Norms {
			p.Threshes = append(p.Threshes, meantThresh(x))
		}
		m.Packs = append(m.Packs, p)
		in = outOf(l, in)
	}
	return m
}

func blank(length int) api.Row {
	return row(length, make([]uint64, (length+63)/64), make([]uint64, (length+63)/64))
}

// put sets the bits of a weight.
func put(r api.Row, at int, w int8) {
	if w != 0 {
		r.Some.Words[at/64] += 1 << (at % 64)
	}
	if w == 1 {
		r.Sign.Words[at/64] += 1 << (at % 64)
	}
}

// meantPatch is an output of an LConv: its weights as a patch's bits lie.
func meantPatch(l api.Layer, channels, k int) api.Row {
	wide := (channels + 63) / 64
	out := blank(l.Win.R * l.Win.S * 64 * wide)
	for r := range l.Win.R {
		for s := range l.Win.S {
			for c := range channels {
				put(out, ((r*l.Win.S+s)*wide+c/64)*64+c%64, l.Weights[((k*l.Win.R+r)*l.Win.S+s)*channels+c])
			}
		}
	}
	return out
}

// meantRow is an output of an LDense.
func meantRow(l api.Layer, elems, k int) api.Row {
	out := blank(elems)
	for i := range elems {
		put(out, i, l.Weights[k*elems+i])
	}
	return out
}

// plus tells what a sum becomes, by the library's fractions.
func plus(n api.Norm, x int64) bool {
	rat := func(f api.Frac) *big.Rat { return big.NewRat(f.Num, f.Den) }
	y := new(big.Rat).SetInt64(x)
	y.Sub(y, rat(n.M))
	y.Mul(y, rat(n.G))
	y.Quo(y, rat(n.S))
	y.Add(y, rat(n.B))
	return y.Sign() >= 0
}

// meantThresh is a norm's threshold, looked for among all sums.
func meantThresh(n api.Norm) api.Thresh {
	low, high := plus(n, -most), plus(n, most)
	if low && high {
		return api.Thresh{Mode: api.ModePlus}
	}
	if !low && !high {
		return api.Thresh{Mode: api.ModeMinus}
	}
	turn := int64(sort.Search(2*most, func(i int) bool { return plus(n, int64(i)-most) == high })) - most
	if high {
		return api.Thresh{Mode: api.ModeGE, T: turn}
	}
	return api.Thresh{Mode: api.ModeLE, T: turn - 1}
}

// called is the same by the calls that the chapter names.
func called(t *testing.T, n api.Net) api.Model {
	t.Helper()
	m := api.Model{Name: n.Name, In: n.In}
	in := n.In
	for _, l := range n.Layers {
		p := api.Pack{Kind: l.Kind, Weight: l.Weight, K: l.K, Win: l.Win, Border: l.Border, Biases: append([]int64(nil), l.Biases...)}
		fan := 0
		if l.K > 0 {
			fan = len(l.Weights) / l.K
		}
		for k := range l.K {
			r, e := dot.Pack(l.Weights[k*fan : (k+1)*fan]...)
			if l.Kind == api.LConv {
				r, e = patch.Spread(in.C, l.Weights[k*fan:(k+1)*fan]...)
			}
			if e != api.OK {
				t.Fatalf("the test's own weights: %d", e)
			}
			p.Rows = append(p.Rows, r)
		}
		for _, x := range l.Norms {
			thresh, e := fold.Fold(x)
			if e != api.OK {
				t.Fatalf("the test's own norms: %d", e)
			}
			p.Threshes = append(p.Threshes, thresh)
		}
		m.Packs = append(m.Packs, p)
		in = outOf(l, in)
	}
	return m
}

// alike holds all calls against both readings.
func alike(t *testing.T, what string, n api.Net) {
	t.Helper()
	want := meant(n)
	if !same(want, called(t, n)) {
		t.Errorf("P20.1: %s: the calls below pack it otherwise than the document", what)
	}
	becomes(t, what, n, want)
}
