package plain_test

import (
	"math/big"
	"slices"
	"strconv"
	"testing"

	"heddle/api"
	"heddle/plain"
)

// dice gives numbers that look like any, the same ones in every run of the tests.
type dice uint64

// roll is a number from least to most.
func (d *dice) roll(least, most int) int {
	*d = *d*6364136223846793005 + 1442695040888963407
	return least + int(uint64(*d)>>33)%(most-least+1)
}

// weights are n of -1, 0 and 1.
func (d *dice) weights(n int) []int8 {
	w := make([]int8, n)
	for i := range w {
		w[i] = int8(d.roll(-1, 1))
	}
	return w
}

// norms are k of them, whose answers change among sums of at most reach in amount.
func (d *dice) norms(k, reach int) []api.Norm {
	var norms []api.Norm
	for range k {
		part := int64(d.roll(1, 5))
		g := fr(int64(d.roll(-6, 6)), int64(d.roll(1, 7)))
		b := fr(int64(d.roll(-9, 9)), int64(d.roll(1, 7)))
		m := fr(int64(d.roll(-reach, reach))*part/2, part)
		norms = append(norms, api.Norm{G: g, B: b, M: m, S: fr(int64(d.roll(1, 9)), int64(d.roll(1, 9)))})
	}
	return norms
}

// layer is one that may stand behind what comes in, and its output's shape.
func (d *dice) layer(in api.Shape, begins bool) (api.Layer, api.Shape) {
	kind, k, reach := d.roll(1, 4), d.roll(1, 4), 3
	if begins {
		reach = 200
	}
	if kind == api.LDense {
		return dense(d.weights(k*count(in)), d.norms(k, reach)...), of(1, 1, k)
	}
	if kind == api.LPool && !begins {
		w := win(d.roll(1, min(3, in.H)), d.roll(1, min(3, in.W)), d.roll(1, 3), d.roll(1, 3), 0, 0, 0, 0)
		return pool(w), windowed(in, w, in.C)
	}
	w := win(d.roll(1, min(4, in.H)), d.roll(1, min(4, in.W)), d.roll(1, 3), d.roll(1, 3), d.roll(0, 3), d.roll(0, 3), d.roll(0, 3), d.roll(0, 3))
	border := d.roll(-1, 1)
	if w.Top+w.Left+w.Bottom+w.Right == 0 {
		border = 0
	}
	return conv(w, border, d.weights(k*w.R*w.S*in.C), d.norms(k, reach)...), windowed(in, w, k)
}

// network is one of one to five layers.
func (d *dice) network() api.Net {
	in := of(d.roll(1, 5), d.roll(1, 5), d.roll(1, 4))
	n := network(in)
	for i := range d.roll(0, 4) {
		var l api.Layer
		l, in = d.layer(in, i == 0)
		n.Layers = append(n.Layers, l)
	}
	k := d.roll(1, 5)
	biases := make([]int64, k)
	for i := range biases {
		biases[i] = int64(d.roll(-4, 4))
	}
	n.Layers = append(n.Layers, last(d.weights(k*count(in)), biases...))
	return n
}

// input is one of the network's size, with the bytes 0, 127, 128 and 255 among any others.
func (d *dice) input(n api.Net) []byte {
	x := make([]byte, count(n.In))
	for i := range x {
		x[i] = []byte{0, 127, 128, 255, byte(d.roll(0, 255)), byte(d.roll(-9, 9))}[d.roll(0, 5)]
	}
	return x
}

// windowed is the shape that a window gives, reckoned by going from place to place.
func windowed(in api.Shape, w api.Window, k int) api.Shape {
	out := api.Shape{C: k}
	for at := -w.Top; at+w.R <= in.H+w.Bottom; at += w.StepY {
		out.H++
	}
	for at := -w.Left; at+w.S <= in.W+w.Right; at += w.StepX {
		out.W++
	}
	return out
}

// meant is what doc/00 says that a network answers, element by element, with norms by fractions of any size.
func meant(n api.Net, x []byte) []api.Step {
	at := api.Step{Shape: n.In}
	for _, b := range x {
		v := int64(b)
		if b > 127 {
			v -= 256
		}
		at.Values = append(at.Values, v)
	}
	var steps []api.Step
	for _, l := range n.Layers {
		at = meantLayer(l, at)
		steps = append(steps, at)
	}
	return steps
}

func meantLayer(l api.Layer, in api.Step) api.Step {
	switch l.Kind {
	case api.LDense:
		out := api.Step{Shape: of(1, 1, l.K)}
		for k := range l.K {
			sum := int64(0)
			for i, v := range in.Values {
				sum += int64(l.Weights[k*len(in.Values)+i]) * v
			}
			out.Values = append(out.Values, meantOf(l, k, sum))
		}
		return out
	case api.LPool:
		out := api.Step{Shape: windowed(in.Shape, l.Win, in.Shape.C)}
		for i := range count(out.Shape) {
			y, x, c := i/out.Shape.C/out.Shape.W, i/out.Shape.C%out.Shape.W, i%out.Shape.C
			var all []int64
			for p := range l.Win.R * l.Win.S {
				all = append(all, element(in, y*l.Win.StepY+p/l.Win.S, x*l.Win.StepX+p%l.Win.S, c, 99))
			}
			out.Values = append(out.Values, slices.Max(all))
		}
		return out
	}
	out := api.Step{Shape: windowed(in.Shape, l.Win, l.K)}
	for i := range count(out.Shape) {
		y, x, k := i/out.Shape.C/out.Shape.W, i/out.Shape.C%out.Shape.W, i%out.Shape.C
		out.Values = append(out.Values, meantOf(l, k, meantSum(l, in, y, x, k)))
	}
	return out
}

// meantSum is the sum of an LConv's output at one place.
func meantSum(l api.Layer, in api.Step, y, x, k int) int64 {
	sum := int64(0)
	for r := range l.Win.R {
		for s := range l.Win.S {
			for c := range in.Shape.C {
				v := element(in, y*l.Win.StepY+r-l.Win.Top, x*l.Win.StepX+s-l.Win.Left, c, int64(l.Border))
				sum += int64(l.Weights[((k*l.Win.R+r)*l.Win.S+s)*in.Shape.C+c]) * v
			}
		}
	}
	return sum
}

// element is that of a place, or what stands in the border.
func element(in api.Step, y, x, c int, border int64) int64 {
	if y < 0 || x < 0 || y >= in.Shape.H || x >= in.Shape.W {
		return border
	}
	return in.Values[(y*in.Shape.W+x)*in.Shape.C+c]
}

// meantOf is what a sum becomes.
func meantOf(l api.Layer, k int, sum int64) int64 {
	if l.Biases != nil {
		return sum + l.Biases[k]
	}
	if becomesPlus(l.Norms[k], sum) {
		return 1
	}
	return -1
}

func becomesPlus(n api.Norm, sum int64) bool {
	v := new(big.Rat).Sub(big.NewRat(sum, 1), big.NewRat(n.M.Num, n.M.Den))
	v.Mul(v, big.NewRat(n.G.Num, n.G.Den))
	v.Quo(v, big.NewRat(n.S.Num, n.S.Den))
	return v.Add(v, big.NewRat(n.B.Num, n.B.Den)).Sign() >= 0
}

// TestAnyNetworks holds networks and inputs of all sorts against what they mean.
func TestAnyNetworks(t *testing.T) {
	d := dice(2)
	for i := range 2000 {
		n := d.network()
		for range 3 {
			x := d.input(n)
			answers(t, "network "+strconv.Itoa(i), n, x, meant(n, x))
		}
	}
}

// TestBytes: a byte is a number of 8 bits with a sign.
func TestBytes(t *testing.T) {
	for b := range 256 {
		v := int64(b)
		if b > 127 {
			v -= 256
		}
		n := network(of(1, 1, 1), last([]int8{1, -1, 0}, 0, 0, 0))
		answers(t, "the byte "+strconv.Itoa(b), n, []byte{byte(b)}, []api.Step{{Shape: of(1, 1, 3), Values: []int64{v, -v, 0}}})
	}
	some := map[byte]int64{0: 0, 127: 127, 128: -128, 255: -1, 1: 1}
	for a, v := range some {
		for b, w := range some {
			n := network(of(2, 1, 1), last([]int8{1, 1, 1, -1, -1, 0}, 0, 100, -100))
			runs(t, "two bytes", n, []byte{a, b}, []int64{v + w, v - w + 100, -v - 100})
		}
	}
}

// gauge is an LConv of one output for each number from -most to most: so many of them are 1 as tell the sum.
func gauge(w api.Window, border int, weights []int8, most int) api.Layer {
	var ts []int64
	for t := -most; t <= most; t++ {
		ts = append(ts, int64(t))
	}
	return conv(w, border, slices.Repeat(weights, len(ts)), froms(ts...)...)
}

// read tells the sums of a step that a gauge made.
func read(s api.Step, most int) []int64 {
	var sums []int64
	for place := range slices.Chunk(s.Values, s.Shape.C) {
		sum := int64(-most - 1)
		for _, v := range place {
			sum += (v + 1) / 2
		}
		sums = append(sums, sum)
	}
	return sums
}

// gauged is the sums of the layer at a place of a network, which a gauge stands for.
func gauged(t *testing.T, in api.Shape, ahead []api.Layer, w api.Window, border int, weights []int8, most int, x []byte) (api.Shape, []int64) {
	t.Helper()
	at := in
	if len(ahead) > 0 {
		at = of(in.H, in.W, ahead[len(ahead)-1].K)
	}
	g := gauge(w, border, weights, most)
	out := windowed(at, w, g.K)
	n := network(in, append(slices.Clone(ahead), g, last(ones(count(out)), 0))...)
	steps, e := plain.Trace(n, x)
	if e != api.OK || len(steps) != len(ahead)+2 {
		t.Fatalf("P6.2: %d steps, %d", len(steps), e)
	}
	return steps[len(ahead)].Shape, read(steps[len(ahead)], most)
}

// TestBordersOnEachSide: what a border of each number gives on each side, in the first layer and behind it.
func TestBordersOnEachSide(t *testing.T) {
	one := signs()
	for _, border := range []int64{-1, 0, 1} {
		b := border
		for _, c := range []struct {
			what       string
			w          api.Window
			rows, cols int
			sums       []int64
		}{
			{"above", win(1, 1, 1, 1, 1, 0, 0, 0), 3, 2, []int64{b, b, 1, -1, -1, 1}},
			{"left", win(1, 1, 1, 1, 0, 1, 0, 0), 2, 3, []int64{b, 1, -1, b, -1, 1}},
			{"below", win(1, 1, 1, 1, 0, 0, 1, 0), 3, 2, []int64{1, -1, -1, 1, b, b}},
			{"right", win(1, 1, 1, 1, 0, 0, 0, 1), 2, 3, []int64{1, -1, b, -1, 1, b}},
			{"all around, in a window of three", win(3, 3, 1, 1, 1, 1, 1, 1), 2, 2, []int64{5 * b, 5 * b, 5 * b, 5 * b}},
			{"above and left, in a window of two", win(2, 2, 1, 1, 1, 1, 0, 0), 2, 2, []int64{3*b + 1, 2 * b, 2 * b, 0}},
			{"below and right, in a window of two", win(2, 2, 1, 1, 0, 0, 1, 1), 2, 2, []int64{0, 2 * b, 2 * b, 3*b + 1}},
			{"with steps into the tensor", win(1, 1, 2, 3, 1, 2, 1, 2), 2, 2, []int64{b, b, b, 1}},
		} {
			for _, ahead := range [][]api.Layer{nil, {one}, {one, one}} {
				shape, sums := gauged(t, of(2, 2, 1), ahead, c.w, int(b), ones(c.w.R*c.w.S), 9, input(1, -1, -1, 1))
				if shape != of(c.rows, c.cols, 19) || !slices.Equal(sums, c.sums) {
					t.Errorf("P6.2: a border of %d %s, behind %d layers: %v, %v, want %v", b, c.what, len(ahead), shape, sums, c.sums)
				}
			}
		}
	}
}

// TestBordersOfAllWidths lays each width on each side, in windows small and great, over several channels.
func TestBordersOfAllWidths(t *testing.T) {
	d := dice(3)
	for side := range 4 {
		for width := 1; width <= 14; width++ {
			for _, size := range []int{1, 2, 5, 15} {
				for border := -1; border <= 1; border++ {
					widths := [4]int{14, 14, 14, 14}
					if size < 15 {
						widths = [4]int{size - 1, size - 1, size, size}
					}
					widths[side] = width
					w := win(size, size, d.roll(1, 4), d.roll(1, 4), widths[0], widths[1], widths[2], widths[3])
					in := of(d.roll(2, 3), d.roll(2, 3), 2)
					if in.H+w.Top+w.Bottom < size || in.W+w.Left+w.Right < size {
						continue
					}
					out := windowed(in, w, 2)
					begins := conv(w, border, d.weights(2*size*size*2), d.norms(2, 50)...)
					behind := conv(w, border, d.weights(2*size*size*2), d.norms(2, 5)...)
					ahead := conv(point(), 0, d.weights(4), d.norms(2, 50)...)
					for _, n := range []api.Net{
						network(in, begins, last(d.weights(count(out)), 0)),
						network(in, ahead, behind, last(d.weights(count(out)), 0)),
					} {
						x := d.input(n)
						answers(t, "borders", n, x, meant(n, x))
					}
				}
			}
		}
	}
}

// TestSteps: where a window goes, with steps that leave places out, and rest places at the end.
func TestSteps(t *testing.T) {
	var x []byte
	for i := range 35 {
		x = append(x, byte(i))
	}
	for _, c := range []struct {
		w    api.Window
		sums []int64
	}{
		{win(1, 1, 1, 3, 0, 0, 0, 0), []int64{0, 3, 6, 7, 10, 13, 14, 17, 20, 21, 24, 27, 28, 31, 34}},
		{win(1, 1, 4, 6, 0, 0, 0, 0), []int64{0, 6, 28, 34}},
		{win(1, 1, 5, 7, 0, 0, 0, 0), []int64{0}},
		{win(1, 1, 15, 15, 0, 0, 0, 0), []int64{0}},
		{win(2, 1, 2, 4, 0, 0, 0, 0), []int64{7, 15, 35, 43}},
		{win(1, 3, 3, 2, 0, 0, 0, 0), []int64{3, 9, 15, 66, 72, 78}},
		{win(1, 1, 2, 3, 1, 1, 0, 0), []int64{0, 0, 0, 0, 9, 12, 0, 23, 26}},
		{win(5, 1, 1, 6, 0, 0, 0, 0), []int64{70, 100}},
		{win(2, 2, 3, 15, 0, 0, 0, 0), []int64{16, 100}},
	} {
		if _, sums := gauged(t, of(5, 7, 1), nil, c.w, 0, ones(c.w.R*c.w.S), 120, x); !slices.Equal(sums, c.sums) {
			t.Errorf("P6.2: %v: sums %v, want %v", c.w, sums, c.sums)
		}
	}
}

// TestOrderOfWeights: each weight alone finds its own element.
func TestOrderOfWeights(t *testing.T) {
	in := of(3, 4, 2)
	var x []byte
	for i := range count(in) {
		x = append(x, byte(i+1))
	}
	for r := range 2 {
		for s := range 3 {
			for c := range 2 {
				weights := make([]int8, 12)
				weights[(r*3+s)*2+c] = -1
				shape, sums := gauged(t, in, nil, win(2, 3, 1, 1, 0, 0, 0, 0), 0, weights, 24, x)
				var want []int64
				for place := range 4 {
					want = append(want, -int64(((place/2+r)*4+place%2+s)*2+c+1))
				}
				if shape != of(2, 2, 49) || !slices.Equal(sums, want) {
					t.Errorf("P6.2: the weight %d %d %d: %v, want %v", r, s, c, sums, want)
				}
			}
		}
	}
}

// TestPools: the greatest of a window, of values that are all -1, all 1 and mixed in every way.
func TestPools(t *testing.T) {
	for _, w := range []api.Window{point(), win(2, 2, 1, 1, 0, 0, 0, 0), win(3, 3, 1, 1, 0, 0, 0, 0), win(3, 3, 15, 15, 0, 0, 0, 0), win(1, 2, 2, 1, 0, 0, 0, 0), win(2, 1, 1, 2, 0, 0, 0, 0), win(1, 1, 2, 2, 0, 0, 0, 0), win(1, 3, 1, 1, 0, 0, 0, 0)} {
		out := windowed(of(3, 3, 1), w, 1)
		for mask := range 512 {
			// The second channel is the first one's opposite, so that none may be taken for the other.
			n := network(of(3, 3, 1), conv(point(), 0, []int8{1, -1}, froms(0, 0)...), pool(w), last(ones(2*count(out)), 0))
			x := make([]byte, 9)
			plus := make([]int64, 9)
			for i := range x {
				x[i], plus[i] = 255, -1
				if mask>>i&1 == 1 {
					x[i], plus[i] = 1, 1
				}
			}
			steps, e := plain.Trace(n, x)
			if e != api.OK || len(steps) != 3 || steps[1].Shape != of(out.H, out.W, 2) || len(steps[1].Values) != 2*count(out) {
				t.Fatalf("P6.2: %v, %d", steps, e)
			}
			for i := range count(out) {
				most, least := int64(-1), int64(1)
				for p := range w.R * w.S {
					v := plus[(i/out.W*w.StepY+p/w.S)*3+i%out.W*w.StepX+p%w.S]
					most, least = max(most, v), min(least, v)
				}
				if steps[1].Values[2*i] != most || steps[1].Values[2*i+1] != -least {
					t.Fatalf("P6.2: %v of %v: %v", w, plus, steps[1].Values)
				}
			}
		}
	}
}

// TestNormsAtTheirEdges: at the sum where a norm's answer changes and at the ones beside it, with G above, below and at 0.
func TestNormsAtTheirEdges(t *testing.T) {
	whole := func(g, b, m, s int64) api.Norm { return api.Norm{G: fr(g, 1), B: fr(b, 1), M: fr(m, 1), S: fr(s, 1)} }
	for _, c := range []struct {
		norm        api.Norm
		least, most int64 // the sums that become 1
	}{
		{whole(1, 0, 0, 1), 0, 127},
		{whole(1, 0, 100, 1), 100, 127},
		{whole(1, 0, -128, 1), -128, 127},
		{whole(1, 0, 128, 1), 1, 0},
		{whole(-1, 0, 0, 1), -128, 0},
		{whole(-1, 0, -128, 1), -128, -128},
		{whole(-7, 0, -129, 3), 1, 0},
		{whole(0, 0, 5, 1), -128, 127},
		{whole(0, 1, 5, 1), -128, 127},
		{whole(0, -1, 5, 1), 1, 0},
		{whole(2, -5, 10, 3), 18, 127},                                          // 2 (x - 10) is at least 15
		{whole(-2, 5, 10, 3), -128, 17},                                         // 2 (x - 10) is at most 15
		{api.Norm{G: fr(1, 3), B: fr(-1, 1), M: fr(1, 2), S: fr(1, 2)}, 2, 127}, // x - 1/2 is at least 3/2
		{api.Norm{G: fr(-2, 3), B: fr(1, 3), M: fr(1, 2), S: fr(5, 1)}, -128, 3},
		{api.Norm{G: fr(0, 9), B: fr(-1, 1048576), M: fr(0, 1), S: fr(1, 1)}, 1, 0},
		{api.Norm{G: fr(1, 1048576), B: fr(-1, 1048576), M: fr(1, 1048576), S: fr(1, 1)}, 2, 127}, // x - 1/1048576 is at least 1
		{api.Norm{G: fr(-1, 1048576), B: fr(1, 1048576), M: fr(1, 1048576), S: fr(1, 1)}, -128, 1},
		{whole(api.MaxSum, -api.MaxSum, 0, 1), 1, 127},
		{whole(-api.MaxSum, -api.MaxSum, 0, 1), -128, -1},
		{whole(1, api.MaxSum, api.MaxSum, 1), 0, 127},
	} {
		n := network(of(1, 1, 1), dense([]int8{1}, c.norm), last([]int8{1}, 0))
		turned := network(of(1, 1, 1), conv(point(), 0, []int8{-1}, c.norm), last([]int8{1}, 0))
		for v := int64(-128); v <= 127; v++ {
			want := func(sum int64) []api.Step {
				s := api.Step{Shape: of(1, 1, 1), Values: []int64{-1}}
				if c.least <= sum && sum <= c.most {
					s.Values[0] = 1
				}
				return []api.Step{s, s}
			}
			answers(t, "a norm of an LDense", n, []byte{byte(v)}, want(v))
			if v > -128 {
				answers(t, "a norm of an LConv", turned, []byte{byte(v)}, want(-v))
			}
		}
	}
}

// TestGreatSums: sums and logits as great as may be, with biases at both ends.
func TestGreatSums(t *testing.T) {
	const most = 128 * (1<<24 - 1)
	in := of(241, 4095, 17)
	x := slices.Repeat([]byte{128}, 1<<24-1)
	minus := slices.Repeat([]int8{-1}, len(x))
	runs(t, "the greatest logit", network(in, last(minus, 127)), x, []int64{api.MaxSum})
	runs(t, "the greatest sum with the least bias", network(in, last(minus, -127)), x, []int64{most - 127})
	runs(t, "the least logit", network(in, last(ones(len(x)), -127)), x, []int64{-api.MaxSum})
	refused(t, "one beyond", network(in, last(minus, 128)), x, api.ErrReach)
	for v, want := range map[int64]int64{most - 1: 1, most: 1, most + 1: -1, api.MaxSum: -1} {
		answers(t, "a norm at the greatest sum", network(in, dense(minus, from(v)), last(ones(1), 0)), x, []api.Step{{Shape: of(1, 1, 1), Values: []int64{want}}, {Shape: of(1, 1, 1), Values: []int64{want}}})
	}
}

// TestBiasesAtBothEnds: of a first layer and of one behind it.
func TestBiasesAtBothEnds(t *testing.T) {
	const edge = api.MaxSum - 256
	n := network(of(1, 1, 2), last([]int8{1, 1, -1, -1, 1, 0, 0, 0}, edge, edge, -edge, -edge))
	for _, x := range [][]byte{input(-128, -128), input(127, 127), input(0, 0), input(5, -1)} {
		a, b := int64(int8(x[0])), int64(int8(x[1]))
		runs(t, "biases", n, x, []int64{a + b + edge, -a - b + edge, a - edge, -edge})
	}
	const behind = api.MaxSum - 2
	n = network(of(1, 1, 2), dense([]int8{1, 0, 0, 1}, froms(0, 0)...), last([]int8{1, 1, -1, -1, 1, 1, -1, -1}, behind, behind, -behind, -behind))
	runs(t, "biases behind two pluses", n, input(0, 1), []int64{api.MaxSum, behind - 2, 2 - behind, -api.MaxSum})
	runs(t, "biases behind two minuses", n, input(-1, -128), []int64{behind - 2, api.MaxSum, -api.MaxSum, 2 - behind})
	n.Layers[1].Biases[3]--
	refused(t, "a bias one beyond", n, input(0, 1), api.ErrReach)
}

// TestArg: the lowest place of the greatest logit, wherever it stands.
func TestArg(t *testing.T) {
	arg := func(want int, biases ...int64) {
		t.Helper()
		n := network(of(1, 1, 1), last(make([]int8, len(biases)), biases...))
		if r, e := plain.Run(n, input(3)); e != api.OK || r.Arg != want || !slices.Equal(r.Logits, biases) {
			t.Errorf("P6.3: the logits %v: %v, %d, want %d", biases, r, e, want)
		}
	}
	arg(0, 0)
	arg(0, -5)
	arg(0, 1, 1, 1)
	arg(0, 0, 0)
	arg(0, -7, -7, -7, -8)
	arg(1, -8, -7, -7)
	arg(2, 1, 2, 3)
	arg(0, 3, 2, 1)
	arg(1, 2, 3, 2, 3)
	arg(3, -4, -3, -2, -1)
	arg(2, -2, -2, -1, -2, -1)
	arg(1, -2147483519, 2147483519, 2147483519)
	arg(0, -2147483519, -2147483519)
	arg(4095, append(make([]int64, 4095), 1)...)
	arg(0, make([]int64, 4096)...)
}
