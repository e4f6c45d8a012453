package slim_test

import (
	"math/big"
	"slices"
	"testing"

	"heddle/api"
	"heddle/frac"
	"heddle/net"
)

// What the document says, word by word, without fold and bound: places by their rows and columns, reaches weight by weight, norms by frac.Plus.

// meantReach is between which numbers an output's sums lie.
func meantReach(weights []int8, first bool) (lo, hi int64) {
	least, greatest := int64(-1), int64(1)
	if first {
		least, greatest = -128, 127
	}
	for _, w := range weights {
		lo += min(int64(w)*least, int64(w)*greatest)
		hi += max(int64(w)*least, int64(w)*greatest)
	}
	return lo, hi
}

// meantValues are the values of the dead outputs of a layer, by their numbers.
func meantValues(t *testing.T, n api.Net, i int) map[int]int64 {
	t.Helper()
	l, dead := n.Layers[i], map[int]int64{}
	if l.Kind == api.LPool || i == len(n.Layers)-1 {
		return dead
	}
	fan := len(l.Weights) / l.K
	for k := range l.K {
		lo, hi := meantReach(l.Weights[k*fan:(k+1)*fan], i == 0)
		low, e := frac.Plus(l.Norms[k], lo)
		high, eToo := frac.Plus(l.Norms[k], hi)
		if e != api.OK || eToo != api.OK {
			t.Fatalf("Plus: %d, %d", e, eToo)
		}
		if low == high {
			dead[k] = -1
			if low {
				dead[k] = 1
			}
		}
	}
	return dead
}

// meantDead are the dead outputs, rising.
func meantDead(t *testing.T, n api.Net, i int) []int {
	t.Helper()
	var list []int
	values := meantValues(t, n, i)
	for k := range n.Layers[i].K {
		if values[k] != 0 {
			list = append(list, k)
		}
	}
	return list
}

// meantStep is the network behind the step at the layer i, if there is one.
func meantStep(t *testing.T, n api.Net, i int) (api.Net, bool) {
	t.Helper()
	if i+1 >= len(n.Layers) || n.Layers[i].Kind == api.LPool || n.Layers[i+1].Kind != api.LDense {
		return api.Net{}, false
	}
	d := meantValues(t, n, i)
	if len(d) == n.Layers[i].K {
		delete(d, 0)
	}
	if len(d) == 0 {
		return api.Net{}, false
	}
	shapes, e := net.Shapes(n)
	if e != api.OK {
		t.Fatalf("the network may not be: %d", e)
	}
	n = net.Clone(n)
	shift := meantBehind(&n.Layers[i+1], shapes[i], d)
	meantHere(&n.Layers[i], d)
	end := &n.Layers[i+1]
	for j, c := range shift {
		if i+1 == len(n.Layers)-1 {
			end.Biases[j] += c
			continue
		}
		end.Norms[j].M.Num -= c * end.Norms[j].M.Den
		if end.Norms[j].M.Num < -most || end.Norms[j].M.Num > most {
			return api.Net{}, false
		}
	}
	return n, true
}

// meantHere takes the outputs d from a layer.
func meantHere(l *api.Layer, d map[int]int64) {
	fan := len(l.Weights) / l.K
	var weights []int8
	var norms []api.Norm
	for k := range l.K {
		if d[k] == 0 {
			weights = append(weights, l.Weights[k*fan:(k+1)*fan]...)
			norms = append(norms, l.Norms[k])
		}
	}
	l.K, l.Weights, l.Norms = l.K-len(d), weights, norms
}

// meantBehind takes the weights for their elements from the layer behind, and tells what these were worth.
func meantBehind(l *api.Layer, in api.Shape, d map[int]int64) []int64 {
	shift := make([]int64, l.K)
	var weights []int8
	for j := range l.K {
		for y := range in.H {
			for x := range in.W {
				for c := range in.C {
					w := l.Weights[j*in.H*in.W*in.C+(y*in.W+x)*in.C+c]
					if d[c] == 0 {
						weights = append(weights, w)
					} else {
						shift[j] += int64(w) * d[c]
					}
				}
			}
		}
	}
	l.Weights = weights
	return shift
}

// meantLeast is a fraction in its least numbers.
func meantLeast(f api.Frac) api.Frac {
	r := big.NewRat(f.Num, f.Den)
	return fr(r.Num().Int64(), r.Denom().Int64())
}

// meantReduced is a network with all fractions in their least numbers.
func meantReduced(n api.Net) api.Net {
	n = net.Clone(n)
	for _, l := range n.Layers {
		for k, m := range l.Norms {
			l.Norms[k] = api.Norm{G: meantLeast(m.G), B: meantLeast(m.B), M: meantLeast(m.M), S: meantLeast(m.S)}
		}
	}
	return n
}

// meantSlim is what should become of a network, and at which layers the steps were, in their order.
func meantSlim(t *testing.T, n api.Net) (api.Net, []int) {
	t.Helper()
	n = meantReduced(n)
	var steps []int
	for i := 0; i < len(n.Layers); i++ {
		if m, there := meantStep(t, n, i); there {
			n, steps, i = m, append(steps, i), -1
		}
	}
	return n, steps
}

// walks fails unless the steps that should be are at these layers, in this order: so that a test has what it is there for.
func walks(t *testing.T, what string, n api.Net, want ...int) {
	t.Helper()
	if _, steps := meantSlim(t, n); !slices.Equal(steps, want) {
		t.Errorf("%s: the steps are at %v, not at %v", what, steps, want)
	}
}
