package net_test

import (
	"math"
	"slices"
	"testing"

	"heddle/api"
)

// layer changes one layer of the network mixed.
func layer(i int, do func(l *api.Layer)) api.Net {
	return changed(mixed(), func(n *api.Net) { do(&n.Layers[i]) })
}

// far are numbers at the ends of an int, and such as look small in fewer bits.
var far = []int{math.MinInt, math.MinInt + 1, -1 << 32, -1<<32 + 1, -4096, -256, -255, 1 << 8, 1<<8 + 1, 1 << 16, 1<<16 + 1, 1 << 32, 1<<32 + 1, 1<<32 + 2, 1<<32 + 3, math.MaxInt - 1, math.MaxInt}

func TestPointA(t *testing.T) {
	for i := range 5 {
		for _, kind := range append([]int{-3, -2, -1, 0, 4, 5}, far...) {
			check(t, "a: a kind that is none", layer(i, func(l *api.Layer) { l.Kind = kind }), i, api.ErrLayers)
		}
	}
	check(t, "a: an LPool first", network(of(4, 4, 1), pool(win(2, 2, 2, 2, 0, 0, 0, 0)), last(1, 4)), 0, api.ErrLayers)
	check(t, "a: an LPool alone", network(of(4, 4, 1), pool(win(2, 2, 2, 2, 0, 0, 0, 0))), 0, api.ErrLayers)
	check(t, "a: an LPool second", network(of(4, 4, 1), conv(1, point(), 1), pool(win(2, 2, 2, 2, 0, 0, 0, 0)), last(1, 4)), 0, api.OK)
	check(t, "a: two LPools one behind the other", network(of(4, 4, 1), conv(1, point(), 1), pool(win(2, 2, 1, 1, 0, 0, 0, 0)), pool(win(2, 2, 1, 1, 0, 0, 0, 0)), last(1, 4)), 0, api.OK)
	check(t, "a: an LConv alone", network(of(4, 4, 1), conv(1, point(), 1)), 0, api.ErrLayers)
	check(t, "a: an LConv last", network(of(4, 4, 1), dense(3, 16), conv(1, point(), 3)), 1, api.ErrLayers)
	biased := conv(1, point(), 3)
	biased.Norms, biased.Biases = nil, []int64{0}
	check(t, "a: an LConv last, with biases", network(of(4, 4, 1), dense(3, 16), biased), 1, api.ErrLayers)
	check(t, "a: an LPool last", network(of(4, 4, 1), conv(1, point(), 1), pool(win(2, 2, 2, 2, 0, 0, 0, 0))), 1, api.ErrLayers)
	check(t, "a: an LDense alone", network(of(4, 4, 1), last(2, 16)), 0, api.OK)
	check(t, "a: an LDense first and in the midst", network(of(4, 4, 1), dense(3, 16), dense(2, 3), last(2, 2)), 0, api.OK)
	check(t, "a: an LConv behind an LDense", network(of(4, 4, 1), dense(3, 16), conv(2, point(), 3), last(2, 2)), 0, api.OK)
	check(t, "a: an LPool behind an LDense", network(of(4, 4, 1), dense(3, 16), pool(point()), last(2, 3)), 0, api.OK)
}

func TestPointBOutputs(t *testing.T) {
	for _, i := range []int{0, 2, 3, 4} {
		for _, k := range append([]int{-2, -1, 0, 4097, 4098, 8192}, far...) {
			if k == 256 || k == 257 { // these may be
				continue
			}
			check(t, "b: K", layer(i, func(l *api.Layer) { l.K = k }), i, api.ErrShape)
		}
	}
	for _, k := range []int{1, 2, 4095, 4096} {
		check(t, "b: K of an LDense", network(of(1, 1, 2), last(k, 2)), 0, api.OK)
		check(t, "b: K of an LDense in the midst", network(of(1, 1, 2), dense(k, 2), last(1, k)), 0, api.OK)
		check(t, "b: K of an LConv", network(of(1, 1, 2), conv(k, point(), 2), last(1, k)), 0, api.OK)
	}
	check(t, "b: K 4097 of an LDense, with all that it asks for", network(of(1, 1, 2), last(4097, 2)), 0, api.ErrShape)
	check(t, "b: K 4097 of an LConv, with all that it asks for", network(of(1, 1, 2), conv(4097, point(), 2), last(1, 4097)), 0, api.ErrShape)
}

func TestPointBZeros(t *testing.T) {
	for what, do := range map[string]func(l *api.Layer){
		"Weight Binary":  func(l *api.Layer) { l.Weight = api.Binary },
		"Weight Ternary": func(l *api.Layer) { l.Weight = api.Ternary },
		"Weight -1":      func(l *api.Layer) { l.Weight = -1 },
		"Border 1":       func(l *api.Layer) { l.Border = 1 },
		"Border -1":      func(l *api.Layer) { l.Border = -1 },
		"K 3":            func(l *api.Layer) { l.K = 3 },
		"K -1":           func(l *api.Layer) { l.K = -1 },
		"K 4097":         func(l *api.Layer) { l.K = 4097 },
		"a weight":       func(l *api.Layer) { l.Weights = []int8{0} },
		"norms":          func(l *api.Layer) { l.Norms = []api.Norm{step(), step(), step()} },
		"a bias":         func(l *api.Layer) { l.Biases = []int64{0} },
	} {
		check(t, "b: an LPool with "+what, layer(1, do), 1, api.ErrLayers)
	}
	for _, far := range far {
		check(t, "b: an LPool with a Border", layer(1, func(l *api.Layer) { l.Border = far }), 1, api.ErrLayers)
		check(t, "b: an LPool with a K", layer(1, func(l *api.Layer) { l.K = far }), 1, api.ErrLayers)
	}
	check(t, "b: an LPool with empty lists", layer(1, func(l *api.Layer) {
		l.Weights, l.Norms, l.Biases = []int8{}, make([]api.Norm, 0, 3), []int64{}
	}), 0, api.OK)
	for _, i := range []int{2, 4} {
		for _, v := range append([]int{-2, -1, 1, 2}, far...) {
			check(t, "b: an LDense with a Border", layer(i, func(l *api.Layer) { l.Border = v }), i, api.ErrLayers)
			for f := range 8 {
				check(t, "b: an LDense with a window's field", layer(i, func(l *api.Layer) { *side(&l.Win, f) = v }), i, api.ErrLayers)
			}
		}
		check(t, "b: an LDense with a window", layer(i, func(l *api.Layer) { l.Win = point() }), i, api.ErrLayers)
	}
}

// side is a field of a window: first those that are 1 to 15, then the borders.
func side(w *api.Window, i int) *int {
	return []*int{&w.R, &w.S, &w.StepY, &w.StepX, &w.Top, &w.Left, &w.Bottom, &w.Right}[i]
}

func TestPointCWindows(t *testing.T) {
	bad := append([]int{-1, -2, -15, 16, 17, 31, 4096}, far...)
	for _, i := range []int{0, 1, 3} {
		for f := range 4 {
			for _, v := range append([]int{0}, bad...) {
				check(t, "c: a size or a step", layer(i, func(l *api.Layer) { *side(&l.Win, f) = v }), i, api.ErrWindow)
			}
		}
		for f := 4; f < 8; f++ {
			for _, v := range append([]int{15}, bad...) {
				check(t, "c: a border", layer(i, func(l *api.Layer) { *side(&l.Win, f) = v }), i, api.ErrWindow)
			}
		}
	}
	for f := 4; f < 8; f++ {
		for v := 1; v <= 14; v++ {
			check(t, "c: an LPool with a border", layer(1, func(l *api.Layer) { *side(&l.Win, f) = v }), 1, api.ErrWindow)
		}
	}
	big := of(15, 15, 1)
	for v := 1; v <= 15; v++ {
		for f := range 4 {
			w := point()
			*side(&w, f) = v
			out := 15 * (16 - v) // a window
			if f >= 2 {
				out = 15 * (1 + 14/v) // a step
			}
			check(t, "c: an LConv's size or step", network(big, conv(1, w, 1), last(1, out)), 0, api.OK)
			check(t, "c: an LPool's size or step", network(big, conv(1, point(), 1), pool(w), last(1, out)), 0, api.OK)
		}
		for f := 4; f < 8; f++ {
			w := point()
			*side(&w, f) = v - 1
			check(t, "c: an LConv's border", network(big, conv(1, w, 1), last(1, 15*(14+v))), 0, api.OK)
		}
	}
}

func TestPointCBorder(t *testing.T) {
	for _, v := range append([]int{-3, -2, 2, 3}, far...) {
		check(t, "c: a Border without borders", layer(0, func(l *api.Layer) { l.Border = v }), 0, api.ErrWindow)
		check(t, "c: a Border with borders", layer(3, func(l *api.Layer) { l.Border = v }), 3, api.ErrWindow)
	}
	for _, v := range []int{-1, 1} {
		check(t, "c: Border 1 or -1 without borders", layer(0, func(l *api.Layer) { l.Border = v }), 0, api.ErrWindow)
		for f := 4; f < 8; f++ {
			w := point()
			*side(&w, f) = 1
			l := conv(1, w, 1)
			l.Border = v
			check(t, "c: Border 1 or -1 with one border", network(of(1, 1, 1), l, last(1, 2)), 0, api.OK)
		}
	}
	for _, v := range []int{-1, 0, 1} {
		check(t, "c: a Border with borders", layer(3, func(l *api.Layer) { l.Border = v }), 0, api.OK)
	}
}

func TestPointCFits(t *testing.T) {
	for _, c := range []struct {
		in  api.Shape
		w   api.Window
		out int // places; 0: it does not fit
	}{
		{of(3, 4, 1), win(3, 4, 1, 1, 0, 0, 0, 0), 1},
		{of(3, 4, 1), win(4, 4, 1, 1, 0, 0, 0, 0), 0},
		{of(3, 4, 1), win(3, 5, 1, 1, 0, 0, 0, 0), 0},
		{of(3, 4, 1), win(4, 4, 1, 1, 1, 0, 0, 0), 1},
		{of(3, 4, 1), win(4, 4, 1, 1, 0, 0, 1, 0), 1},
		{of(3, 4, 1), win(4, 4, 1, 1, 0, 1, 0, 1), 0},
		{of(3, 4, 1), win(3, 5, 1, 1, 0, 1, 0, 0), 1},
		{of(3, 4, 1), win(3, 5, 1, 1, 0, 0, 0, 1), 1},
		{of(3, 4, 1), win(3, 5, 1, 1, 1, 0, 1, 0), 0},
		{of(3, 4, 1), win(4, 5, 15, 15, 1, 1, 0, 0), 1},
		{of(3, 4, 1), win(4, 4, 15, 15, 0, 0, 0, 0), 0}, // a step does not make it fit
		{of(1, 1, 1), win(15, 15, 1, 1, 14, 0, 0, 14), 1},
		{of(1, 1, 1), win(15, 15, 1, 1, 13, 0, 0, 14), 0},
		{of(1, 1, 1), win(15, 15, 1, 1, 14, 13, 0, 0), 0},
	} {
		at, e := 0, api.OK
		if c.out == 0 {
			e = api.ErrFit
		}
		check(t, "c: an LConv that fits just so, or not", network(c.in, conv(1, c.w, 1), last(1, c.out)), at, e)
		if c.w == win(c.w.R, c.w.S, c.w.StepY, c.w.StepX, 0, 0, 0, 0) {
			if c.out == 0 {
				at = 1
			}
			check(t, "c: an LPool that fits just so, or not", network(c.in, conv(1, point(), 1), pool(c.w), last(1, c.out)), at, e)
		}
	}
}

func TestPointCOutputs(t *testing.T) {
	tall, broad := of(4096, 1, 1), of(1, 4096, 1)
	check(t, "c: 4096 rows", network(tall, conv(1, win(2, 1, 1, 1, 1, 0, 0, 0), 1), last(1, 4096)), 0, api.OK)
	check(t, "c: 4097 rows", network(tall, conv(1, win(1, 1, 1, 1, 1, 0, 0, 0), 1), last(1, 4097)), 0, api.ErrShape)
	check(t, "c: 4097 rows, by the border below", network(tall, conv(1, win(2, 1, 1, 1, 0, 0, 2, 0), 1), last(1, 4097)), 0, api.ErrShape)
	check(t, "c: 4096 columns", network(broad, conv(1, win(1, 2, 1, 1, 0, 0, 0, 1), 1), last(1, 4096)), 0, api.OK)
	check(t, "c: 4097 columns", network(broad, conv(1, win(1, 1, 1, 1, 0, 0, 0, 1), 1), last(1, 4097)), 0, api.ErrShape)
	check(t, "c: 4097 columns, by the border ahead", network(broad, conv(1, win(1, 2, 1, 1, 0, 2, 0, 0), 1), last(1, 4097)), 0, api.ErrShape)
	check(t, "c: 4097 rows of a later layer", network(tall, conv(1, point(), 1), conv(1, win(1, 1, 1, 1, 0, 0, 1, 0), 1), last(1, 4097)), 1, api.ErrShape)

	thin := pool(win(15, 1, 15, 1, 0, 0, 0, 0))
	check(t, "c: 2^24 elements", network(tall, conv(4096, point(), 1), thin, last(1, 273*4096)), 0, api.OK)
	check(t, "c: 2^24 elements and a column more", network(tall, conv(4096, win(1, 1, 1, 1, 0, 0, 0, 1), 1), thin, last(1, 2*273*4096)), 0, api.ErrBig)
	check(t, "c: 256 * 256 * 256", network(of(256, 256, 1), conv(256, point(), 1), pool(win(15, 15, 15, 15, 0, 0, 0, 0)), last(1, 17*17*256)), 0, api.OK)
	check(t, "c: 256 * 256 * 257", network(of(256, 256, 1), conv(257, point(), 1), pool(win(15, 15, 15, 15, 0, 0, 0, 0)), last(1, 17*17*257)), 0, api.ErrBig)
	check(t, "c: too many elements of a later layer", network(of(256, 256, 1), conv(1, point(), 1), conv(257, point(), 1), last(1, 1)), 1, api.ErrBig)
}

func TestPointDKinds(t *testing.T) {
	for _, i := range []int{0, 2, 3, 4} {
		for _, v := range append([]int{-2, -1, 0, 3, 4}, far...) {
			check(t, "d: a Weight", layer(i, func(l *api.Layer) { l.Weight = v }), i, api.ErrWeight)
		}
		for place := range mixed().Layers[i].Weights {
			for _, w := range []int8{-128, -127, -3, -2, 2, 3, 126, 127} {
				for _, kind := range []int{api.Binary, api.Ternary} {
					check(t, "d: a weight that may not be", layer(i, func(l *api.Layer) {
						l.Weight = kind
						l.Weights = ones(len(l.Weights))
						l.Weights[place] = w
					}), i, api.ErrWeight)
				}
			}
			for _, w := range []int8{-1, 0, 1} {
				check(t, "d: a ternary weight", layer(i, func(l *api.Layer) { l.Weight, l.Weights[place] = api.Ternary, w }), 0, api.OK)
				at, e := 0, api.OK
				if w == 0 {
					at, e = i, api.ErrWeight
				}
				check(t, "d: a binary weight", layer(i, func(l *api.Layer) {
					l.Weight = api.Binary
					l.Weights = ones(len(l.Weights))
					l.Weights[place] = w
				}), at, e)
			}
		}
	}
}

func TestPointDCounts(t *testing.T) {
	for _, i := range []int{0, 2, 3, 4} {
		right := len(mixed().Layers[i].Weights)
		for _, count := range []int{0, 1, right - 1, right + 1, 2 * right} {
			check(t, "d: another number of weights", layer(i, func(l *api.Layer) { l.Weights = ones(count) }), i, api.ErrWeight)
		}
		check(t, "d: no list of weights", layer(i, func(l *api.Layer) { l.Weights = nil }), i, api.ErrWeight)
		check(t, "d: weights with room behind them", layer(i, func(l *api.Layer) { l.Weights = append(l.Weights, 7, 7, 7)[:right] }), 0, api.OK)
	}
	// The window's rows, columns and the channels each count.
	n := network(of(7, 7, 5), conv(3, win(2, 4, 1, 1, 0, 0, 0, 0), 5), last(1, 72))
	check(t, "d: 3 * 2 * 4 * 5 weights", n, 0, api.OK)
	n.Layers[0].Weights = ones(119)
	check(t, "d: one less", n, 0, api.ErrWeight)
}

func TestPointDRoom(t *testing.T) {
	check(t, "d: 2^24 weights of one layer", network(of(1, 1, 4096), last(4096, 4096)), 0, api.OK)
	check(t, "d: 2^24 + 1 weights of one layer", network(of(97, 673, 1), last(257, 65281)), 0, api.ErrBig)
	check(t, "d: 2^24 weights of two", network(of(64, 1000, 1), dense(256, 64000), last(1536, 256)), 0, api.OK)
	check(t, "d: 2^24 + 1 weights of two", network(of(64, 1000, 1), dense(257, 64000), last(1281, 257)), 1, api.ErrBig)
	// The first has 2^24 - 2^20, an LPool has none, and the rest is shared by an LConv and the last one.
	first := dense(1024, 15360)
	rest := func(k, outputs int) api.Net {
		return network(of(64, 60, 4), first, pool(point()), conv(k, point(), 1024), last(outputs, k))
	}
	check(t, "d: 2^24 weights of three layers", rest(512, 1024), 0, api.OK)
	check(t, "d: 2^24 weights and an output more", rest(512, 1025), 3, api.ErrBig)
	check(t, "d: 2^24 weights ahead of the last layer", rest(1024, 1), 3, api.ErrBig)
	check(t, "d: an output above 2^24 weights in the midst", rest(1025, 1), 2, api.ErrBig)
	// What counts is how many there should be, not how many there are.
	lacking := rest(1025, 1)
	lacking.Layers[2].Weights = nil
	check(t, "d: too many would have to be, and none is", lacking, 2, api.ErrBig)
	check(t, "d: as many as may ever be asked for", changed(network(of(4096, 4096, 1), last(4096, 0)), func(n *api.Net) { n.Layers[0].Biases = nil }), 0, api.ErrBig)
}

func TestPointENorms(t *testing.T) {
	fields := func(n *api.Norm) []*api.Frac { return []*api.Frac{&n.G, &n.B, &n.M, &n.S} }
	for _, i := range []int{0, 2, 3} {
		k := mixed().Layers[i].K
		for _, count := range []int{0, 1, k - 1, k + 1, 2 * k} {
			check(t, "e: another number of norms", layer(i, func(l *api.Layer) { l.Norms = slices.Repeat([]api.Norm{step()}, count) }), i, api.ErrNorm)
		}
		check(t, "e: no list of norms", layer(i, func(l *api.Layer) { l.Norms = nil }), i, api.ErrNorm)
		check(t, "e: a bias", layer(i, func(l *api.Layer) { l.Biases = []int64{0} }), i, api.ErrNorm)
		check(t, "e: as many biases as outputs", layer(i, func(l *api.Layer) { l.Biases = make([]int64, k) }), i, api.ErrNorm)
		check(t, "e: biases for norms", layer(i, func(l *api.Layer) { l.Norms, l.Biases = nil, make([]int64, k) }), i, api.ErrNorm)
		check(t, "e: an empty list of biases", layer(i, func(l *api.Layer) { l.Biases = make([]int64, 0, 4) }), 0, api.OK)
		for at := range k {
			for f := range 4 {
				put := func(v api.Frac) api.Net {
					return layer(i, func(l *api.Layer) { *fields(&l.Norms[at])[f] = v })
				}
				for _, v := range []api.Frac{fr(1, 0), fr(1, -1), fr(1, 1<<20+1), fr(1<<31, 1), fr(-1<<31, 1), fr(0, 0), fr(math.MinInt64, 1), fr(math.MaxInt64, 1), fr(1, math.MinInt64), fr(1, math.MaxInt64), fr(1, 1<<32+1), fr(1<<32+1, 1)} {
					check(t, "e: a fraction that may not be", put(v), i, api.ErrNorm)
				}
				for _, v := range []api.Frac{fr(1, 1), fr(6, 4), fr(1, 1<<20), fr(1<<31-1, 1), fr(1<<31-1, 1<<20)} {
					check(t, "e: a fraction that may be", put(v), 0, api.OK)
				}
				for _, v := range []api.Frac{fr(0, 1), fr(0, 7), fr(-1, 1), fr(-1, 1<<20), fr(-1<<31+1, 3)} {
					if f < 3 {
						check(t, "e: a fraction of 0 or less", put(v), 0, api.OK)
					} else {
						check(t, "e: an S of 0 or less", put(v), i, api.ErrNorm)
					}
				}
			}
		}
	}
}

func TestPointEBiases(t *testing.T) {
	for _, count := range []int{0, 1, 2, 4, 6} {
		check(t, "e: another number of biases", layer(4, func(l *api.Layer) { l.Biases = make([]int64, count) }), 4, api.ErrBias)
	}
	check(t, "e: no list of biases", layer(4, func(l *api.Layer) { l.Biases = nil }), 4, api.ErrBias)
	check(t, "e: a norm of the last layer", layer(4, func(l *api.Layer) { l.Norms = []api.Norm{step()} }), 4, api.ErrBias)
	check(t, "e: norms of the last layer", layer(4, func(l *api.Layer) { l.Norms = []api.Norm{step(), step(), step()} }), 4, api.ErrBias)
	check(t, "e: norms for biases", layer(4, func(l *api.Layer) { l.Norms, l.Biases = []api.Norm{step(), step(), step()}, nil }), 4, api.ErrBias)
	check(t, "e: an empty list of norms", layer(4, func(l *api.Layer) { l.Norms = make([]api.Norm, 0, 4) }), 0, api.OK)
	check(t, "e: norms of the only layer", network(of(1, 1, 2), dense(1, 2)), 0, api.ErrBias)
}

func TestPointFBiases(t *testing.T) {
	for _, c := range []struct {
		what string
		n    api.Net
		most int64 // MaxSum less the fan-in times m
	}{
		{"behind others", mixed(), 2147483647 - 12},
		{"behind an LPool", example(), 2147483647 - 4},
		{"alone", network(of(2, 3, 5), last(3, 30)), 2147483647 - 128*30},
		{"alone with one weight", network(of(1, 1, 1), last(1, 1)), 2147483647 - 128},
		{"alone with 2^20 weights an output", network(of(1024, 1024, 1), last(2, 1<<20)), 2147483647 - 1<<27},
		{"behind another", network(of(1, 1, 300), dense(2, 300), last(3, 2)), 2147483647 - 2},
	} {
		end := len(c.n.Layers) - 1
		for place := range c.n.Layers[end].Biases {
			for _, b := range []int64{0, 1, -1, c.most - 1, c.most, c.most + 1, -c.most + 1, -c.most, -c.most - 1, 1<<31 - 1, -1<<31 + 1, 1 << 31, -1 << 31, 1 << 32, -1 << 32, math.MaxInt64, math.MaxInt64 - 1, math.MinInt64, math.MinInt64 + 1} {
				at, e := 0, api.OK
				if b > c.most || b < -c.most {
					at, e = end, api.ErrReach
				}
				l := c.n.Layers[end]
				l.Biases = make([]int64, len(l.Biases))
				l.Biases[place] = b
				check(t, "f: a bias "+c.what, network(c.n.In, append(slices.Clone(c.n.Layers[:end]), l)...), at, e)
			}
		}
	}
}

func TestPointFFanIn(t *testing.T) {
	// 2^24 - 1 inputs, times 128, leave 127.
	n := network(of(4095, 241, 17), last(1, 1<<24-1))
	for b, e := range map[int64]api.Errno{127: api.OK, -127: api.OK, 128: api.ErrReach, -128: api.ErrReach} {
		n.Layers[0].Biases[0] = b
		check(t, "f: a bias beside 2^24 - 1 inputs", n, 0, e)
	}
	check(t, "f: 2^24 inputs of the first layer", network(of(4096, 4096, 1), last(1, 1<<24)), 0, api.ErrReach)
	check(t, "f: 2^24 inputs of the first layer, with norms", network(of(4096, 4096, 1), dense(1, 1<<24), last(1, 1)), 0, api.ErrReach)
	check(t, "f: 2^24 - 1 inputs of the first layer, with norms", network(of(4095, 241, 17), dense(1, 1<<24-1), last(1, 1)), 0, api.OK)
	// Behind the first layer no amount is above 1, so as many inputs are within reach.
	late := network(of(4095, 241, 1), conv(16, point(), 1), last(1, 4095*241*16))
	late.Layers[1].Biases[0] = 1<<31 - 1 - 4095*241*16
	check(t, "f: millions of inputs of a later layer", late, 0, api.OK)
	late.Layers[1].Biases[0]++
	check(t, "f: millions of inputs of a later layer, a bias too great", late, 1, api.ErrReach)
}
