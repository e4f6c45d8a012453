package slim_test

import (
	"slices"
	"testing"

	"heddle/api"
	"heddle/net"
	"heddle/plain"
	"heddle/slim"
)

// dice gives numbers that look like any, the same ones in every run of the tests.
type dice uint64

// roll is a number from least to most.
func (d *dice) roll(least, most int) int {
	*d = *d*6364136223846793005 + 1442695040888963407
	return least + int(uint64(*d)>>33)%(most-least+1)
}

// weights are n of -1, 0 and 1.
func (d *dice) weights(n int) []int8 {
	w := make([]int8, n)
	for i := range w {
		w[i] = int8(d.roll(-1, 1))
	}
	return w
}

// wider is a fraction with numbers that may be greater than the least.
func (d *dice) wider(f api.Frac) api.Frac {
	by := int64(d.roll(1, 3))
	if f.Num*by > most || f.Num*by < -most || f.Den*by > 1<<20 {
		return f
	}
	return fr(f.Num*by, f.Den*by)
}

// norm is one that is often dead among sums of at most about reach in amount, or whose M is near its bounds.
func (d *dice) norm(reach int) api.Norm {
	t := int64(d.roll(-reach-1, reach+1))
	n := from(t)
	switch d.roll(0, 9) {
	case 0:
		n = always()
	case 1:
		n = never()
	case 2:
		n = from(int64(d.roll(reach, 2*reach)))
	case 3:
		n = upTo(int64(d.roll(reach, 2*reach)))
	case 4:
		n = brink(int64(d.roll(0, 3))-most, t)
		n.B.Num = max(n.B.Num, -most)
	case 5:
		n = brink(most-int64(d.roll(0, 3)), t)
		n.B.Num = min(n.B.Num, most)
	case 6:
		n = norm(1, 0, []int64{most, -most}[d.roll(0, 1)], 1)
	case 7:
		n = upTo(t)
	case 8:
		n = api.Norm{G: fr(int64(d.roll(-3, 3)), 2), B: fr(int64(d.roll(-5, 5)), 3), M: fr(t*2+1, 2), S: fr(int64(d.roll(1, 5)), 4)}
	}
	return api.Norm{G: d.wider(n.G), B: d.wider(n.B), M: d.wider(n.M), S: d.wider(n.S)}
}

func (d *dice) norms(k, reach int) []api.Norm {
	var norms []api.Norm
	for range k {
		norms = append(norms, d.norm(reach))
	}
	return norms
}

func windowed(in api.Shape, w api.Window, k int) api.Shape {
	return of((in.H+w.Top+w.Bottom-w.R)/w.StepY+1, (in.W+w.Left+w.Right-w.S)/w.StepX+1, k)
}

// layer is one that may stand behind what comes in, mostly an LDense, and its output's shape.
func (d *dice) layer(in api.Shape, begins bool) (api.Layer, api.Shape) {
	kind, k, reach := d.roll(0, 6), d.roll(1, 4), 2
	if begins {
		reach = 200
	}
	if kind == api.LPool && !begins {
		w := win(d.roll(1, min(3, in.H)), d.roll(1, min(3, in.W)), d.roll(1, 3), d.roll(1, 3), 0, 0, 0, 0)
		return pool(w), windowed(in, w, in.C)
	}
	if kind != api.LConv {
		return dense(d.weights(k*count(in)), d.norms(k, reach)...), of(1, 1, k)
	}
	w := win(d.roll(1, min(4, in.H)), d.roll(1, min(4, in.W)), d.roll(1, 3), d.roll(1, 3), d.roll(0, 2), d.roll(0, 2), d.roll(0, 2), d.roll(0, 2))
	border := d.roll(-1, 1)
	if w.Top+w.Left+w.Bottom+w.Right == 0 {
		border = 0
	}
	return conv(w, border, d.weights(k*w.R*w.S*in.C), d.norms(k, reach)...), windowed(in, w, k)
}

// network is one of up to seven layers with that input.
func (d *dice) network(in api.Shape) api.Net {
	n := network(in)
	for i := range d.roll(0, 6) {
		var l api.Layer
		l, in = d.layer(in, i == 0)
		n.Layers = append(n.Layers, l)
	}
	biases := make([]int64, d.roll(1, 4))
	for i := range biases {
		biases[i] = int64(d.roll(-5, 5))
	}
	n.Layers = append(n.Layers, last(d.weights(len(biases)*count(in)), biases...))
	return n
}

func (d *dice) any() api.Net { return d.network(of(d.roll(1, 3), d.roll(1, 3), d.roll(1, 3))) }

// mixed has a layer of each kind, dead outputs in each that can have them, and fractions that are not in their least numbers.
func mixed() api.Net {
	d := dice(7)
	half := api.Norm{G: fr(2, 2), B: fr(0, 5), M: fr(2, 4), S: fr(3, 3)}
	return network(of(5, 4, 2),
		conv(win(2, 3, 1, 1, 1, 0, 0, 2), -1, d.weights(3*12), from(-3), always(), from(40)),
		pool(win(2, 2, 2, 1, 0, 0, 0, 0)),
		dense(d.weights(4*18), half, never(), from(1), upTo(18)),
		dense(d.weights(3*4), from(0), brink(most, 0), half),
		conv(win(1, 2, 1, 2, 1, 1, 0, 2), 1, d.weights(2*6), from(0), never()),
		last(d.weights(3*8), 3, -4, 0))
}

// alike fails unless both networks answer the same to an input.
func alike(t *testing.T, n, m api.Net, x []byte) {
	t.Helper()
	a, e := plain.Run(n, x)
	b, eToo := plain.Run(m, x)
	if e != api.OK || eToo != api.OK || a.Arg != b.Arg || !slices.Equal(a.Logits, b.Logits) {
		t.Fatalf("P18.3: %v: %v, %d of %+v and %v, %d of %+v", x, a, e, n, b, eToo, m)
	}
}

// slimmed is what becomes of a network that must not be refused.
func slimmed(t *testing.T, n api.Net) api.Net {
	t.Helper()
	m, e := slim.Slim(n)
	if at, check := net.Check(m); e != api.OK || check != api.OK {
		t.Fatalf("P18.3: Slim = %+v, %d, of which Check tells %d, %d", m, e, at, check)
	}
	return m
}

// inputs are some of a network's size: even ones, those at both ends, any.
func (d *dice) inputs(n api.Net) [][]byte {
	size := count(n.In)
	var all [][]byte
	for _, b := range []byte{0, 1, 127, 128, 255} {
		all = append(all, slices.Repeat([]byte{b}, size))
	}
	for range 8 {
		ends, any := make([]byte, size), make([]byte, size)
		for i := range size {
			ends[i], any[i] = byte(127+d.roll(0, 1)), byte(d.roll(0, 255))
		}
		all = append(all, ends, any)
	}
	return all
}

// TestAnyNetworks: what becomes of networks of all sorts, and that there are enough of each sort.
func TestAnyNetworks(t *testing.T) {
	d := dice(31)
	counts := map[string]int{}
	for range 6000 {
		n := d.any()
		want, steps := meantSlim(t, n)
		becomes(t, "any network", n, want)
		for layer := range n.Layers {
			dead(t, "any network", n, layer, meantDead(t, n, layer)...)
		}
		if t.Failed() {
			return
		}
		for _, x := range d.inputs(n) {
			alike(t, n, want, x)
		}
		sorts(t, counts, n, want, steps)
	}
	for _, sort := range []string{"no step", "several steps", "a step ahead", "a layer twice", "an LConv", "barred", "one dead alone", "fractions alone"} {
		if counts[sort] < 20 {
			t.Errorf("of the sort '%s' there are %d", sort, counts[sort])
		}
	}
}

// sorts counts of which sorts a network is.
func sorts(t *testing.T, counts map[string]int, n, want api.Net, steps []int) {
	t.Helper()
	seen := map[string]bool{
		"no step":         len(steps) == 0,
		"several steps":   len(steps) > 1,
		"a step ahead":    !slices.IsSorted(steps),
		"fractions alone": len(steps) == 0 && !net.Equal(n, want),
	}
	for i, layer := range steps {
		seen["an LConv"] = seen["an LConv"] || n.Layers[layer].Kind == api.LConv
		seen["a layer twice"] = seen["a layer twice"] || slices.Contains(steps[:i], layer)
	}
	for i := range want.Layers[:len(want.Layers)-1] {
		if left := meantDead(t, want, i); want.Layers[i+1].Kind == api.LDense && len(left) > 0 {
			seen["one dead alone"] = seen["one dead alone"] || want.Layers[i].K == 1
			seen["barred"] = seen["barred"] || want.Layers[i].K > 1
		}
	}
	for sort, is := range seen {
		if is {
			counts[sort]++
		}
	}
}

// TestAlikeOfAllBytes: networks with one input element, and every input.
func TestAlikeOfAllBytes(t *testing.T) {
	t.Parallel()
	d := dice(32)
	for range 400 {
		n := d.network(of(1, 1, 1))
		m := slimmed(t, n)
		for x := range 256 {
			alike(t, n, m, []byte{byte(x)})
		}
	}
}

// TestAlikeOfAllPairs: networks with two input elements, and every input.
func TestAlikeOfAllPairs(t *testing.T) {
	t.Parallel()
	d := dice(33)
	for found := 0; found < 6; {
		n := d.network([]api.Shape{of(1, 1, 2), of(1, 2, 1), of(2, 1, 1)}[found%3])
		if _, steps := meantSlim(t, n); len(steps) < 2 {
			continue
		}
		found++
		m := slimmed(t, n)
		for x := range 1 << 16 {
			alike(t, n, m, []byte{byte(x), byte(x >> 8)})
		}
	}
}

// TestAlikeOfTheDocument: the chapter's network, to every input.
func TestAlikeOfTheDocument(t *testing.T) {
	t.Parallel()
	for x := range 1 << 16 {
		alike(t, chapter(), chapterSlim(), []byte{byte(x), byte(x >> 8)})
	}
}

// TestAlikeOfGreaterNetworks: some with more channels than a word has bits.
func TestAlikeOfGreaterNetworks(t *testing.T) {
	t.Parallel()
	d := dice(34)
	for range 12 {
		const k = 70
		n := network(of(4, 4, 3),
			conv(win(3, 3, 1, 1, 1, 1, 1, 1), 1, d.weights(k*27), d.norms(k, 3000)...),
			dense(d.weights(k*16*k), d.norms(k, 30)...),
			dense(d.weights(k*k), d.norms(k, 10)...),
			last(d.weights(5*k), 1, 2, 3, 4, 5))
		for i := range 3 { // no bars
			for j, m := range n.Layers[i].Norms {
				if m.M.Num > most/2 || m.M.Num < -most/2 {
					n.Layers[i].Norms[j] = from(0)
				}
			}
		}
		want, steps := meantSlim(t, n)
		if len(steps) < 3 {
			t.Errorf("there are %d steps", len(steps))
		}
		becomes(t, "a greater network", n, want)
		for _, x := range d.inputs(n) {
			alike(t, n, want, x)
		}
	}
}
