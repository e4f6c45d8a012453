package slim_test

import (
	"math"
	"testing"

	"heddle/api"
	"heddle/slim"
)

// ahead is a network whose first layer has this one row of weights for each norm.
func ahead(row string, norms ...api.Norm) api.Net {
	var weights []int8
	for range norms {
		weights = append(weights, read(row)...)
	}
	return network(of(1, 1, len(read(row))), dense(weights, norms...), last(make([]int8, len(norms)), 0))
}

// inner is one whose second layer has it.
func inner(row string, norms ...api.Norm) api.Net {
	n := ahead(row, norms...)
	var first api.Layer
	for range read(row) {
		first.Norms = append(first.Norms, from(0))
		first.Weights = append(first.Weights, 1)
	}
	n.In = of(1, 1, 1)
	n.Layers = append([]api.Layer{dense(first.Weights, first.Norms...)}, n.Layers...)
	return n
}

// TestEndsOfTheReach: thresholds at both ends of the reach and one sum beside them.
func TestEndsOfTheReach(t *testing.T) {
	for _, c := range []struct {
		row    string
		lo, hi int64 // of the first layer
		out    int64 // of the second one: as many below 0 as above it
	}{
		{"+", -128, 127, 1},
		{"-", -127, 128, 1},
		{"++", -256, 254, 2},
		{"+-", -255, 255, 2},
		{"++-0", -3*128 + 1, 2*127 + 128, 3},
		{"---", -3 * 127, 3 * 128, 3},
		{"00", 0, 0, 0},
	} {
		rising := func(lo, hi int64) []api.Norm { return froms(lo-1, lo, lo+1, hi, hi+1, hi+2) }
		falling := func(lo, hi int64) []api.Norm {
			return []api.Norm{upTo(lo - 2), upTo(lo - 1), upTo(lo), upTo(hi - 1), upTo(hi), upTo(hi + 1)}
		}
		want := []int{0, 1, 4, 5}
		if c.row == "00" { // both ends are one: no threshold lies between
			want = []int{0, 1, 2, 3, 4, 5}
		}
		dead(t, c.row+", rising", ahead(c.row, rising(c.lo, c.hi)...), 0, want...)
		dead(t, c.row+", falling", ahead(c.row, falling(c.lo, c.hi)...), 0, want...)
		dead(t, c.row+", rising, behind a layer", inner(c.row, rising(-c.out, c.out)...), 1, want...)
		dead(t, c.row+", falling, behind a layer", inner(c.row, falling(-c.out, c.out)...), 1, want...)
	}
}

// TestHalvesBesideTheEnds: thresholds between two sums.
func TestHalvesBesideTheEnds(t *testing.T) {
	at := func(g, m int64) api.Norm {
		n := from(0)
		n.G.Num, n.M = g, fr(m, 2)
		return n
	}
	// The reach is -128 to 127.
	n := ahead("+", at(1, -257), at(1, -256), at(1, -255), at(1, 253), at(1, 254), at(1, 255), at(-1, -257), at(-1, -256), at(-1, -255), at(-1, 253), at(-1, 254), at(-1, 255))
	dead(t, "halves", n, 0, 0, 1, 5, 6, 10, 11)
}

// TestSlopes: G above, below and at 0, with B and S of all sorts.
func TestSlopes(t *testing.T) {
	n := ahead("+-", norm(3, 0, 0, 7), norm(-3, 0, 0, 7), norm(0, 0, 9, 1), norm(0, 1, 9, 1), norm(0, -1, 9, 1), norm(1, 255, 0, 1), norm(1, 254, 0, 1), norm(1, -255, 0, 1), norm(1, -256, 0, 1), norm(-1, 255, 0, 1), norm(-1, 254, 0, 1), norm(-1, -255, 0, 1), norm(-1, -256, 0, 1), norm(2, 511, 0, 1), norm(2, 509, 0, 1))
	dead(t, "slopes", n, 0, 2, 3, 4, 5, 8, 9, 12, 13)
	n = ahead("+-", brink(most, 0), brink(-most, 0), brink(most, 256), brink(-most, -255), norm(1, 0, most, 1), norm(1, 0, -most, 1), norm(-1, 0, most, 1), norm(-1, 0, -most, 1))
	dead(t, "far out", n, 0, 2, 3, 4, 5, 6, 7)
}

// TestDeadOfEachKind: of every layer what it has; of an LPool and of the last layer nothing, though nothing of them ever changes.
func TestDeadOfEachKind(t *testing.T) {
	n := network(of(2, 2, 1),
		conv(win(2, 2, 1, 1, 1, 1, 1, 1), -1, read("++++ ++-- 0000"), from(4*127), from(-2*128-2*127), from(0)),
		pool(win(2, 2, 1, 1, 0, 0, 0, 0)),
		conv(point(), 0, read("+0+ -+- +00"), from(-2), from(4), from(1)),
		dense(make([]int8, 2*4*3), from(0), from(1)),
		last(read("00"), 7))
	dead(t, "an LConv first", n, 0, 1, 2)
	dead(t, "an LPool", n, 1)
	dead(t, "an LConv between", n, 2, 0, 1)
	dead(t, "an LDense between", n, 3, 0, 1)
	dead(t, "the last layer", n, 4)
	dead(t, "a last layer that is the first one", network(of(1, 1, 1), last(read("0+"), 3, 4)), 0)
}

// TestDeadAsItStands: Dead asks of the network itself, not of one whose dead outputs have gone.
func TestDeadAsItStands(t *testing.T) {
	n := network(of(1, 1, 1), dense(read("++"), from(0), always()), dense(read("++ +-"), from(0), from(-1)), last(read("++"), 0))
	dead(t, "the first layer", n, 0, 1)
	dead(t, "the second layer", n, 1)
	walks(t, "the two steps", n, 0, 1)
}

// TestLayersBeside: numbers that are no layer's.
func TestLayersBeside(t *testing.T) {
	for _, n := range []api.Net{chapter(), mixed(), network(of(1, 1, 1), last(read("+"), 0))} {
		for _, layer := range []int{math.MinInt, -1 << 32, -2, -1, len(n.Layers), len(n.Layers) + 1, 64, 1 << 32, math.MaxInt} {
			if l, e := slim.Dead(n, layer); e != api.ErrArg || len(l) != 0 {
				t.Errorf("P18.1: Dead(%d) = %v, %d, want ErrArg", layer, l, e)
			}
		}
		for layer := range n.Layers {
			dead(t, "a layer that is there", n, layer, meantDead(t, n, layer)...)
		}
	}
}

// TestManyDead: as many outputs as there may be.
func TestManyDead(t *testing.T) {
	var norms []api.Norm
	var want []int
	for k := range 4096 {
		norms = append(norms, from(int64(k-2000)))
		if k-2000 <= -128 || k-2000 > 127 {
			want = append(want, k)
		}
	}
	dead(t, "4096 outputs", ahead("+", norms...), 0, want...)
}
