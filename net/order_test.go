package net_test

import (
	"math"
	"reflect"
	"slices"
	"strings"
	"testing"

	"heddle/api"
	"heddle/net"
)

// TestFaultsInOrder has several faults at a time: the one that stands first in doc/00-meaning.md counts.
func TestFaultsInOrder(t *testing.T) {
	for _, c := range []struct {
		what string
		do   func(n *api.Net)
		at   int
		e    api.Errno
	}{
		{"1 ahead of 2", func(n *api.Net) { n.Name, n.In.H = "", 0 }, -1, api.ErrName},
		{"1 ahead of 3", func(n *api.Net) { n.Name, n.Layers = "?", nil }, -1, api.ErrName},
		{"1 ahead of 4", func(n *api.Net) { n.Name, n.Layers[0].Kind = "", 0 }, -1, api.ErrName},
		{"2, a side ahead of the elements", func(n *api.Net) { n.In = of(4097, 4096, 4096) }, -1, api.ErrShape},
		{"2 ahead of 3", func(n *api.Net) { n.In.W, n.Layers = 0, nil }, -1, api.ErrShape},
		{"2, the elements ahead of 3", func(n *api.Net) { n.In, n.Layers = of(4096, 4096, 2), nil }, -1, api.ErrBig},
		{"2 ahead of 4", func(n *api.Net) { n.In.C, n.Layers[0].Kind = 0, 0 }, -1, api.ErrShape},
		{"3 ahead of 4", func(n *api.Net) { n.Layers = append(make([]api.Layer, 65), n.Layers...) }, -1, api.ErrLayers},

		{"a ahead of b, of a kind", func(n *api.Net) { n.Layers[0].Kind, n.Layers[0].K = 0, 0 }, 0, api.ErrLayers},
		{"a ahead of b, of the last", func(n *api.Net) { n.Layers[4].Kind, n.Layers[4].K = api.LConv, 0 }, 4, api.ErrLayers},
		{"a ahead of c, of the last", func(n *api.Net) { n.Layers[4].Kind = api.LConv }, 4, api.ErrLayers},
		{"a ahead of c, of an LPool first", func(n *api.Net) { n.Layers[0] = pool(win(0, 0, 0, 0, 0, 0, 0, 0)) }, 0, api.ErrLayers},
		{"b, K ahead of the window", func(n *api.Net) { n.Layers[2].K, n.Layers[2].Win.R = 0, 1 }, 2, api.ErrShape},
		{"b, K ahead of the Border", func(n *api.Net) { n.Layers[4].K, n.Layers[4].Border = 4097, 1 }, 4, api.ErrShape},
		{"b ahead of c, of an LConv", func(n *api.Net) { n.Layers[0].K, n.Layers[0].Win.R = -1, 0 }, 0, api.ErrShape},
		{"b ahead of c, of an LConv's fit", func(n *api.Net) { n.Layers[0].K, n.Layers[0].Win.R = 4097, 15 }, 0, api.ErrShape},
		{"b ahead of c, of an LPool", func(n *api.Net) { n.Layers[1].K, n.Layers[1].Win.StepX = 1, 0 }, 1, api.ErrLayers},
		{"b ahead of c, of an LPool's border", func(n *api.Net) { n.Layers[1].Border, n.Layers[1].Win.Top = 1, 1 }, 1, api.ErrLayers},
		{"b ahead of d, of an LConv", func(n *api.Net) { n.Layers[3].K, n.Layers[3].Weight = 0, 0 }, 3, api.ErrShape},
		{"b ahead of d, of an LDense", func(n *api.Net) { n.Layers[2].Border, n.Layers[2].Weight = 1, 0 }, 2, api.ErrLayers},
		{"b ahead of e", func(n *api.Net) { n.Layers[2].K, n.Layers[2].Norms = 0, nil }, 2, api.ErrShape},
		{"b ahead of f", func(n *api.Net) { n.Layers[4].Win.Right, n.Layers[4].Biases[0] = 1, math.MinInt64 }, 4, api.ErrLayers},
		{"c, the window ahead of the fit", func(n *api.Net) { n.Layers[0].Win.R, n.Layers[0].Win.StepX = 15, 0 }, 0, api.ErrWindow},
		{"c, the Border ahead of the fit", func(n *api.Net) { n.Layers[0].Win.R, n.Layers[0].Border = 15, 1 }, 0, api.ErrWindow},
		{"c, the Border's reach ahead of the fit", func(n *api.Net) { n.Layers[3].Win.S, n.Layers[3].Border = 15, 2 }, 3, api.ErrWindow},
		{"c, an LPool's border ahead of the fit", func(n *api.Net) { n.Layers[1].Win.S, n.Layers[1].Win.Right = 15, 1 }, 1, api.ErrWindow},
		{"c, a border that would make an LPool fit", func(n *api.Net) { n.Layers[1].Win.S, n.Layers[1].Win.Right = 5, 1 }, 1, api.ErrWindow},
		{"c, the fit ahead of the rows", func(n *api.Net) {
			n.In, n.Layers[0].Win = of(4096, 1, 2), win(1, 2, 1, 1, 1, 0, 0, 0)
		}, 0, api.ErrFit},
		{"c, the fit ahead of the elements", func(n *api.Net) {
			n.In, n.Layers[0].Win, n.Layers[0].K = of(4096, 1, 2), win(1, 2, 1, 1, 0, 0, 0, 0), 4096
		}, 0, api.ErrFit},
		{"c, the rows ahead of the elements", func(n *api.Net) {
			n.In, n.Layers[0].Win, n.Layers[0].K = of(4096, 1, 2), win(1, 1, 1, 1, 1, 0, 0, 0), 4096
		}, 0, api.ErrShape},
		{"c, the Border ahead of the rows", func(n *api.Net) {
			n.In, n.Layers[0].Win, n.Layers[0].Border = of(4096, 1, 2), win(1, 1, 1, 1, 1, 0, 0, 0), 5
		}, 0, api.ErrWindow},
		{"c ahead of d", func(n *api.Net) { n.Layers[0].Win.S, n.Layers[0].Weight = 0, 0 }, 0, api.ErrWindow},
		{"c, the fit ahead of d", func(n *api.Net) { n.Layers[0].Win.S, n.Layers[0].Weight = 15, 0 }, 0, api.ErrFit},
		{"c, the elements ahead of d", func(n *api.Net) {
			n.In, n.Layers[0].K, n.Layers[0].Weight = of(4096, 3, 2), 4096, 0
		}, 0, api.ErrBig},
		{"c ahead of e", func(n *api.Net) { n.Layers[3].Win.Top, n.Layers[3].Norms = 15, nil }, 3, api.ErrWindow},
		{"d, the kind ahead of too many", func(n *api.Net) { n.In, n.Layers = of(4096, 4096, 1), []api.Layer{{Kind: api.LDense, K: 2}} }, 0, api.ErrWeight},
		{"d, the kind ahead of too many, of an LConv", func(n *api.Net) {
			n.In, n.Layers[0].Win, n.Layers[0].K, n.Layers[0].Weight = of(1, 1, 4096), win(15, 15, 1, 1, 14, 14, 0, 0), 4096, 3
		}, 0, api.ErrWeight},
		{"d, too many ahead of the count, of an LConv", func(n *api.Net) {
			n.In, n.Layers[0].Win, n.Layers[0].K = of(1, 1, 4096), win(15, 15, 1, 1, 14, 14, 0, 0), 4096
		}, 0, api.ErrBig},
		{"d, too many ahead of the count", func(n *api.Net) {
			n.In, n.Layers = of(4096, 4096, 1), []api.Layer{{Kind: api.LDense, K: 2, Weight: api.Binary}}
		}, 0, api.ErrBig},
		{"d, too many ahead of the weights", func(n *api.Net) {
			n.In, n.Layers = of(4096, 4096, 1), []api.Layer{{Kind: api.LDense, K: 2, Weight: api.Binary, Weights: []int8{5}}}
		}, 0, api.ErrBig},
		{"d ahead of e, the kind", func(n *api.Net) { n.Layers[2].Weight, n.Layers[2].Norms = 0, nil }, 2, api.ErrWeight},
		{"d ahead of e, too many", func(n *api.Net) {
			n.In, n.Layers = of(4096, 4096, 1), []api.Layer{{Kind: api.LDense, K: 2, Weight: api.Binary, Norms: []api.Norm{{}}}}
		}, 0, api.ErrBig},
		{"d ahead of e, the count", func(n *api.Net) { n.Layers[2].Weights, n.Layers[2].Norms = nil, nil }, 2, api.ErrWeight},
		{"d ahead of e, a weight", func(n *api.Net) { n.Layers[4].Weights[35], n.Layers[4].Biases = 2, nil }, 4, api.ErrWeight},
		{"d ahead of f", func(n *api.Net) { n.Layers[4].Weights[35], n.Layers[4].Biases[0] = 0, math.MaxInt64 }, 4, api.ErrWeight},
		{"e ahead of f, a bias too many", func(n *api.Net) { n.Layers[4].Biases = append(n.Layers[4].Biases, math.MaxInt64) }, 4, api.ErrBias},
		{"e ahead of f, a norm", func(n *api.Net) {
			n.Layers[4].Norms, n.Layers[4].Biases[2] = []api.Norm{step()}, math.MaxInt64
		}, 4, api.ErrBias},
		{"e ahead of f, the fan-in", func(n *api.Net) {
			n.In, n.Layers = of(4096, 4096, 1), []api.Layer{last(1, 1<<24)}
			n.Layers[0].Biases = nil
		}, 0, api.ErrBias},
		{"e ahead of f, of norms", func(n *api.Net) {
			n.In, n.Layers = of(4096, 4096, 1), []api.Layer{dense(1, 1<<24), last(1, 1)}
			n.Layers[0].Norms[0].S.Num = 0
		}, 0, api.ErrNorm},

		{"a layer ahead of the next", func(n *api.Net) { n.Layers[1].K, n.Layers[0].Norms = 1, nil }, 0, api.ErrNorm},
		{"the last point of a layer ahead of the first of the next", func(n *api.Net) {
			n.In, n.Layers = of(4096, 4096, 1), []api.Layer{dense(1, 1<<24), {}}
		}, 0, api.ErrReach},
		{"norms ahead of a later kind", func(n *api.Net) { n.Layers[2].Norms[3].G.Den, n.Layers[4].Kind = 0, 9 }, 2, api.ErrNorm},
		{"a ahead of d, of a last layer that is no LDense", func(n *api.Net) { n.Layers[3].Weights[0], n.Layers = 0, n.Layers[:4] }, 3, api.ErrLayers},
		{"a weight ahead of a later LPool that is last", func(n *api.Net) { n.Layers[0].Weights[0], n.Layers = 2, n.Layers[:2] }, 0, api.ErrWeight},
		{"two layers with one fault", func(n *api.Net) { n.Layers[2].K, n.Layers[3].K = 0, 0 }, 2, api.ErrShape},
	} {
		check(t, c.what, changed(mixed(), c.do), c.at, c.e)
	}
}

// leaves are all numbers and the text within a network, by a walk through all that it has.
func leaves(v reflect.Value) []reflect.Value {
	var all []reflect.Value
	switch v.Kind() {
	case reflect.Struct:
		for i := range v.NumField() {
			all = append(all, leaves(v.Field(i))...)
		}
	case reflect.Slice:
		for i := range v.Len() {
			all = append(all, leaves(v.Index(i))...)
		}
	default:
		all = append(all, v)
	}
	return all
}

// numbers are the whole numbers among the leaves.
func numbers(n *api.Net) []reflect.Value {
	return slices.DeleteFunc(leaves(reflect.ValueOf(n).Elem()), func(v reflect.Value) bool { return !v.CanInt() })
}

// rule is a sentence of doc/00-meaning.md: whether it holds, and the error if it does not.
type rule struct {
	holds bool
	e     api.Errno
}

func between(v, least, most int) bool { return v >= least && v <= most }

// broken is the first rule that does not hold.
func broken(rules ...rule) api.Errno {
	for _, r := range rules {
		if !r.holds {
			return r.e
		}
	}
	return api.OK
}

// stops counts the places of a window along one side by going from one to the next.
func stops(length, before, after, window, step int) int {
	n := 0
	for at := -before; step > 0 && at+window <= length+after; at += step {
		n++
	}
	return n
}

func normMayBe(n api.Norm) bool {
	for _, f := range []api.Frac{n.G, n.B, n.M, n.S} {
		if f.Den < 1 || f.Den > 1048576 || f.Num < -2147483647 || f.Num > 2147483647 {
			return false
		}
	}
	return n.S.Num > 0
}

// told is what the document asks of a network: its fault's layer, its fault, the shapes.
func told(n api.Net) (int, api.Errno, []api.Shape) {
	const letters = "abcdefghijklmnopqrstuvwxyzABCDEFGHIJKLMNOPQRSTUVWXYZ0123456789_-"
	in := n.In
	e := broken(
		rule{between(len(n.Name), 1, 32) && strings.Trim(n.Name, letters) == "", api.ErrName}, // a letter that may not be stops Trim
		rule{between(in.H, 1, 4096) && between(in.W, 1, 4096) && between(in.C, 1, 4096), api.ErrShape})
	if e == api.OK {
		e = broken(rule{in.H*in.W*in.C <= 1<<24, api.ErrBig}, rule{between(len(n.Layers), 1, 64), api.ErrLayers})
	}
	if e != api.OK {
		return -1, e, nil
	}
	var shapes []api.Shape
	weights := 0
	for i, l := range n.Layers {
		out, count, e := toldLayer(l, in, weights, i == 0, i == len(n.Layers)-1)
		if e != api.OK {
			return i, e, nil
		}
		shapes, weights, in = append(shapes, out), weights+count, out
	}
	return 0, api.OK, shapes
}

// toldLayer is the same of one layer: its output, how many weights it has, its fault.
func toldLayer(l api.Layer, in api.Shape, ahead int, first, end bool) (api.Shape, int, api.Errno) {
	conv, dense, pool := l.Kind == 1, l.Kind == 2, l.Kind == 3
	w, out := l.Win, in
	e := broken(
		rule{conv || dense || pool, api.ErrLayers},
		rule{!(first && pool), api.ErrLayers},
		rule{!end || dense, api.ErrLayers},
		rule{pool || between(l.K, 1, 4096), api.ErrShape},
		rule{!pool || l.K == 0 && l.Weight == 0 && l.Border == 0 && len(l.Weights)+len(l.Norms)+len(l.Biases) == 0, api.ErrLayers},
		rule{!dense || w == api.Window{} && l.Border == 0, api.ErrLayers})
	if e == api.OK && !dense {
		e = broken(
			rule{between(w.R, 1, 15) && between(w.S, 1, 15) && between(w.StepY, 1, 15) && between(w.StepX, 1, 15), api.ErrWindow},
			rule{between(w.Top, 0, 14) && between(w.Left, 0, 14) && between(w.Bottom, 0, 14) && between(w.Right, 0, 14), api.ErrWindow},
			rule{!pool || w.Top+w.Left+w.Bottom+w.Right == 0, api.ErrWindow},
			rule{between(l.Border, -1, 1), api.ErrWindow},
			rule{w.Top+w.Left+w.Bottom+w.Right > 0 || l.Border == 0, api.ErrWindow})
		if e == api.OK {
			out.H, out.W = stops(in.H, w.Top, w.Bottom, w.R, w.StepY), stops(in.W, w.Left, w.Right, w.S, w.StepX)
			if conv {
				out.C = l.K
			}
			e = broken(
				rule{out.H > 0 && out.W > 0, api.ErrFit},
				rule{out.H <= 4096 && out.W <= 4096, api.ErrShape},
				rule{out.H*out.W*out.C <= 1<<24, api.ErrBig})
		}
	}
	if e != api.OK || pool {
		return out, 0, e
	}
	fan := w.R * w.S * in.C
	if dense {
		fan, out = in.H*in.W*in.C, of(1, 1, l.K)
	}
	most := 1<<31 - 1 - fan
	if first {
		most = 1<<31 - 1 - fan*128
	}
	return out, l.K * fan, broken(
		rule{l.Weight == 1 || l.Weight == 2, api.ErrWeight},
		rule{ahead+l.K*fan <= 1<<24, api.ErrBig},
		rule{len(l.Weights) == l.K*fan, api.ErrWeight},
		rule{!slices.ContainsFunc(l.Weights, func(v int8) bool { return v < -1 || v > 1 }), api.ErrWeight},
		rule{l.Weight == 2 || !slices.Contains(l.Weights, 0), api.ErrWeight},
		rule{end || len(l.Norms) == l.K && len(l.Biases) == 0, api.ErrNorm},
		rule{end || !slices.ContainsFunc(l.Norms, func(n api.Norm) bool { return !normMayBe(n) }), api.ErrNorm},
		rule{!end || len(l.Biases) == l.K && len(l.Norms) == 0, api.ErrBias},
		rule{most >= 0, api.ErrReach},
		rule{!slices.ContainsFunc(l.Biases, func(b int64) bool { return b > int64(most) || b < -int64(most) }), api.ErrReach})
}

// against holds Check and Shapes against the document's words.
func against(t *testing.T, n api.Net) {
	t.Helper()
	at, e, shapes := told(n)
	if gotAt, got := net.Check(n); gotAt != at || got != e {
		t.Fatalf("P5.1: Check(%+v) = %d, %d, want %d, %d", n, gotAt, got, at, e)
	}
	if got, gotE := net.Shapes(n); gotE != e || !slices.Equal(got, shapes) {
		t.Fatalf("P5.2: Shapes(%+v) = %v, %d, want %v, %d", n, got, gotE, shapes, e)
	}
}

// small is a network with a layer of each kind and few numbers, so that all pairs of them can be changed.
func small() api.Net {
	n := network(of(2, 2, 1), conv(1, win(1, 2, 1, 1, 0, 1, 0, 0), 1), pool(win(2, 1, 1, 1, 0, 0, 0, 0)), dense(1, 2), last(1, 1))
	n.Layers[2].Weight = api.Ternary
	return n
}

// TestAnyNumbers puts numbers of any size at every place of a network, one and two at a time.
func TestAnyNumbers(t *testing.T) {
	some := []int64{math.MinInt64, -1<<31 - 1, -2, -1, 0, 1, 2, 3, 14, 15, 16, 128, 4096, 4097, 1 << 20, 1<<31 - 1, 1<<31 - 129, 1 << 31, 1<<32 + 1, math.MaxInt64}
	for _, make := range []func() api.Net{example, mixed, small} {
		n := make()
		for i := range numbers(&n) {
			for _, v := range some {
				n := make()
				numbers(&n)[i].SetInt(v) // an int8 keeps the lowest bits
				against(t, n)
			}
		}
	}
	few := []int64{math.MinInt64, -1, 0, 1, 2, 15, 4097, math.MaxInt64}
	n := small()
	all := numbers(&n)
	for i := range all {
		for j := range i {
			was, wasToo := all[i].Int(), all[j].Int()
			for _, v := range few {
				for _, w := range few {
					all[i].SetInt(v)
					all[j].SetInt(w)
					against(t, n)
				}
			}
			all[i].SetInt(was)
			all[j].SetInt(wasToo)
		}
	}
}

// TestAnyLists takes, repeats and empties layers and lists, two at a time.
func TestAnyLists(t *testing.T) {
	changes := []func(n *api.Net, i int){
		func(n *api.Net, i int) {},
		func(n *api.Net, i int) { n.Layers = slices.Delete(n.Layers, i, i+1) },
		func(n *api.Net, i int) { n.Layers = slices.Insert(n.Layers, i, n.Layers[i]) },
		func(n *api.Net, i int) { n.Layers = n.Layers[:i] },
		func(n *api.Net, i int) { n.Layers = slices.Repeat(n.Layers, 17) },
		func(n *api.Net, i int) { slices.Reverse(n.Layers) },
		func(n *api.Net, i int) { n.Layers[0], n.Layers[i] = n.Layers[i], n.Layers[0] },
		func(n *api.Net, i int) { n.Layers[i] = api.Layer{} },
		func(n *api.Net, i int) { n.Layers[i].Weights = nil },
		func(n *api.Net, i int) { n.Layers[i].Weights = append(n.Layers[i].Weights, 1) },
		func(n *api.Net, i int) { n.Layers[i].Norms = nil },
		func(n *api.Net, i int) { n.Layers[i].Norms = append(n.Layers[i].Norms, step()) },
		func(n *api.Net, i int) { n.Layers[i].Norms = make([]api.Norm, len(n.Layers[i].Norms)) },
		func(n *api.Net, i int) { n.Layers[i].Biases = nil },
		func(n *api.Net, i int) { n.Layers[i].Biases = append(n.Layers[i].Biases, math.MinInt64) },
		func(n *api.Net, i int) { n.Layers[i].Kind = api.LConv },
		func(n *api.Net, i int) { n.Layers[i].Kind = api.LDense },
		func(n *api.Net, i int) { n.Layers[i].Kind = api.LPool },
		func(n *api.Net, i int) { n.Name = "" },
		func(n *api.Net, i int) { n.In = api.Shape{} },
	}
	for _, make := range []func() api.Net{example, mixed, small} {
		for _, one := range changes {
			for _, two := range changes {
				for i := range make().Layers {
					for j := range make().Layers {
						n := make()
						one(&n, i)
						if j < len(n.Layers) {
							two(&n, j)
						}
						against(t, n)
					}
				}
			}
		}
	}
	against(t, api.Net{})
	against(t, api.Net{Name: "n"})
	against(t, api.Net{Name: "n", In: of(1, 1, 1)})
}
