package convert_test

import (
	"slices"
	"strings"
	"testing"

	"heddle/api"
	"heddle/convert"
	"heddle/dot"
	"heddle/patch"
)

// dice gives numbers that look like any, the same ones in every run of the tests.
type dice uint64

// roll is a number from least to most.
func (d *dice) roll(least, most int) int {
	*d = *d*6364136223846793005 + 1442695040888963407
	return least + int(uint64(*d)>>33)%(most-least+1)
}

func one[T any](d *dice, list []T) T { return list[d.roll(0, len(list)-1)] }

// weights are n of a kind.
func (d *dice) weights(n, kind int) []int8 {
	w := make([]int8, n)
	for i := range w {
		w[i] = one(d, [][]int8{api.Binary: {1, -1}, api.Ternary: {1, -1, 0}}[kind])
	}
	return w
}

// frac is a fraction with small numbers, or one near the bounds.
func (d *dice) frac() api.Frac {
	num := one(d, []int64{0, 1, -1, most, -most, int64(d.roll(-9, 9)), int64(d.roll(-9, 9)), int64(d.roll(-999999, 999999))})
	return fr(num, one(d, []int64{1, 1, 1, 2, 3, 1 << 20, int64(d.roll(1, 9)), int64(d.roll(1, 1<<20))}))
}

func (d *dice) norms(k int) []api.Norm {
	var list []api.Norm
	for range k {
		n := norm(d.frac(), d.frac(), d.frac(), d.frac())
		if n.S.Num = max(n.S.Num, -n.S.Num); n.S.Num == 0 {
			n.S.Num = 1
		}
		list = append(list, n)
	}
	return list
}

// layer is one that may stand behind what comes in.
func (d *dice) layer(in api.Shape, begins, ends bool) api.Layer {
	l := api.Layer{Kind: d.roll(1, 3), Weight: d.roll(1, 2), K: one(d, []int{1, 2, 3, 5, 63, 64, 65, 128})}
	if begins && l.Kind == api.LPool {
		l.Kind = api.LConv
	}
	if ends {
		l.Kind = api.LDense
	}
	if l.Kind == api.LPool {
		return pool(win(d.roll(1, min(3, in.H)), d.roll(1, min(3, in.W)), d.roll(1, 15), d.roll(1, 15), 0, 0, 0, 0))
	}
	fan := count(in)
	if l.Kind == api.LConv {
		w := win(d.roll(1, min(4, in.H)), d.roll(1, min(4, in.W)), d.roll(1, 3), d.roll(1, 3), d.roll(0, 2), d.roll(0, 2), d.roll(0, 2), d.roll(0, 2))
		if w.Top+w.Left+w.Bottom+w.Right > 0 {
			l.Border = d.roll(-1, 1)
		}
		l.Win, fan = w, w.R*w.S*in.C
	}
	l.Weights = d.weights(l.K*fan, l.Weight)
	if !ends {
		l.Norms = d.norms(l.K)
		return l
	}
	for range l.K {
		left := most - 128*fan
		l.Biases = append(l.Biases, int64(one(d, []int{0, 1, -1, left, -left, d.roll(-99999, 99999)})))
	}
	return l
}

// network is one of one to five layers.
func (d *dice) network() api.Net {
	in := of(d.roll(1, 4), d.roll(1, 4), one(d, []int{1, 2, 3, 63, 64, 65, 128}))
	n := api.Net{Name: one(d, []string{"a", "net", "-", "_0", strings.Repeat("Zz9-", 8)}), In: in}
	layers := d.roll(1, 5)
	for i := range layers {
		l := d.layer(in, i == 0, i == layers-1)
		n.Layers = append(n.Layers, l)
		in = outOf(l, in)
	}
	return n
}

// TestAnyNetworks: networks of all sorts, and that there are enough of each sort.
func TestAnyNetworks(t *testing.T) {
	d := dice(20)
	kinds, modes, signs := map[int]int{}, map[int]int{}, map[bool]int{}
	for range 250 {
		n := d.network()
		alike(t, "any network", n)
		m, _, _ := convert.Of(n)
		for i, p := range m.Packs {
			kinds[10*p.Kind+p.Weight]++
			for k, thresh := range p.Threshes {
				modes[thresh.Mode]++
				signs[n.Layers[i].Norms[k].G.Num > 0]++
			}
		}
	}
	for _, kind := range []int{11, 12, 21, 22, 30} {
		if kinds[kind] < 20 {
			t.Errorf("the test's own networks: %d layers of the kind %d", kinds[kind], kind)
		}
	}
	if modes[1] < 50 || modes[2] < 50 || modes[3] < 50 || modes[4] < 50 || signs[true] < 50 || signs[false] < 50 {
		t.Errorf("the test's own norms: %v, %v", modes, signs)
	}
}

// TestChannels: rows of convolutions with every number of channels around whole words, as the first layer and behind each kind of layer, against patch.Spread; and of the LDense behind them, against dot.Pack.
func TestChannels(t *testing.T) {
	d := dice(64)
	for _, c := range []int{1, 2, 31, 32, 33, 62, 63, 64, 65, 66, 126, 127, 128, 129, 192, 193} {
		for _, weight := range []int{api.Binary, api.Ternary} {
			w := win(d.roll(1, 3), d.roll(1, 3), d.roll(1, 2), d.roll(1, 2), d.roll(1, 2), 1, 1, d.roll(1, 2))
			with := func(l api.Layer) api.Layer {
				l.Weight, l.Weights, l.Norms = weight, d.weights(len(l.Weights), weight), d.norms(len(l.Norms))
				return l
			}
			looked := with(conv(3, w, c))
			behind := func(in api.Shape, ahead ...api.Layer) api.Net {
				n := network(in, append(ahead, looked)...)
				for _, l := range n.Layers {
					in = outOf(l, in)
				}
				n.Layers = append(n.Layers, with(last(2, count(in))))
				return n
			}
			for what, n := range map[string]api.Net{
				"first":             behind(of(3, 3, c)),
				"behind an LConv":   behind(of(3, 3, 2), with(conv(c, point(), 2))),
				"behind an LDense":  behind(of(1, 2, 5), with(dense(c, 10))),
				"behind an LPool":   behind(of(4, 4, 1), with(conv(c, point(), 1)), pool(win(2, 2, 1, 1, 0, 0, 0, 0))),
				"behind two LPools": behind(of(4, 4, 1), with(conv(c, point(), 1)), pool(win(2, 1, 1, 1, 0, 0, 0, 0)), pool(win(1, 2, 1, 1, 0, 0, 0, 0))),
			} {
				alike(t, what, n)
				rowsOf(t, what, n, c)
			}
		}
	}
}

// rowsOf looks at the rows of a network's last two layers, a convolution of c channels and an LDense.
func rowsOf(t *testing.T, what string, n api.Net, c int) {
	t.Helper()
	m, at, e := convert.Of(n)
	if e != api.OK || at != 0 {
		t.Errorf("P20.1: %s: %d, %d", what, at, e)
		return
	}
	for i := len(n.Layers) - 2; i < len(n.Layers); i++ {
		l, p := n.Layers[i], m.Packs[i]
		fan := len(l.Weights) / l.K
		if len(p.Rows) != l.K {
			t.Errorf("P20.1: %s: layer %d: %d rows", what, i, len(p.Rows))
			return
		}
		for k, r := range p.Rows {
			w := l.Weights[k*fan : (k+1)*fan]
			want, _ := dot.Pack(w...)
			if l.Kind == api.LConv {
				want, _ = patch.Spread(c, w...)
			}
			if r.Sign.Len != want.Sign.Len || r.Some.Len != want.Some.Len || !slices.Equal(r.Sign.Words, want.Sign.Words) || !slices.Equal(r.Some.Words, want.Some.Words) {
				t.Errorf("P20.1: %s: %d channels: layer %d, row %d: %x, not %x", what, c, i, k, r, want)
			}
		}
	}
}

// TestEveryWeight: one weight that is other than the rest, at every place of a convolution and of a dense layer.
func TestEveryWeight(t *testing.T) {
	for _, kind := range []int{api.LConv, api.LDense} {
		for _, pair := range [][2]int8{{0, 1}, {0, -1}, {1, -1}, {-1, 1}, {1, 0}, {-1, 0}} {
			for at := range 2 * 2 * 3 * 65 {
				n := network(of(2, 3, 65), conv(2, win(2, 3, 1, 1, 0, 0, 0, 0), 65), last(1, 2))
				if kind == api.LDense {
					n.Layers[0] = dense(2, 2*3*65)
				}
				l := &n.Layers[0]
				l.Weight, l.Weights = api.Ternary, turns(len(l.Weights), pair[0])
				l.Weights[at] = pair[1]
				want := meant(n)
				if m, _, e := convert.Of(n); e != api.OK || !same(m, want) {
					t.Errorf("P20.1: a weight at %d of a layer of the kind %d: %d", at, kind, e)
				}
			}
		}
	}
}

// TestEdges: each number of a layer at its least and at its greatest.
func TestEdges(t *testing.T) {
	for _, k := range []int{1, 2, 255, 256, 257, 4095, 4096} {
		alike(t, "outputs", network(of(1, 1, 2), dense(k, 2), last(3, k)))
		alike(t, "outputs of a convolution", network(of(1, 1, 2), conv(k, point(), 2), last(1, k)))
		alike(t, "outputs of the last", network(of(1, 1, 2), last(k, 2)))
	}
	for _, c := range []int{4032, 4033, 4095, 4096} {
		alike(t, "channels", network(of(1, 2, c), conv(1, win(1, 2, 1, 1, 0, 0, 0, 0), c), last(1, 1)))
		alike(t, "elements", network(of(1, 2, c), last(1, 2*c)))
	}
	for _, w := range []api.Window{point(), win(15, 1, 1, 1, 14, 0, 0, 0), win(1, 15, 1, 1, 0, 14, 0, 0), win(1, 1, 15, 1, 0, 0, 14, 0), win(1, 1, 1, 15, 0, 0, 0, 14), win(15, 15, 15, 15, 14, 14, 14, 14)} {
		for border := -1; border <= 1; border++ {
			l := conv(2, w, 3)
			if l.Border = border; w == point() {
				l.Border = 0
			}
			alike(t, "a window", network(of(1, 1, 3), l, last(1, count(outOf(l, of(1, 1, 3))))))
		}
		w.Top, w.Left, w.Bottom, w.Right = 0, 0, 0, 0
		alike(t, "a pool's window", network(of(15, 15, 1), conv(1, point(), 1), pool(w), last(1, count(outOf(pool(w), of(15, 15, 1))))))
	}
	for _, letters := range []string{"a", "Z", "0", "_", "-", strings.Repeat("q", 32)} {
		n := mixed()
		n.Name = letters
		alike(t, "a name", n)
	}
}

// TestBiases: at both ends, and one beyond.
func TestBiases(t *testing.T) {
	for _, c := range []struct {
		n    api.Net
		left int64
	}{
		{network(of(1, 1, 3), last(2, 3)), most - 3*128},
		{network(of(1, 1, 3), dense(5, 3), last(2, 5)), most - 5},
		{network(of(1, 1, 3), conv(5, point(), 3), pool(point()), last(2, 5)), most - 5},
	} {
		end := len(c.n.Layers) - 1
		l := &c.n.Layers[end]
		for _, bias := range []int64{0, 1, -1, 127, -128, 1 << 20, c.left - 1, c.left, -c.left} {
			l.Biases = []int64{bias, -bias}
			alike(t, "biases", c.n)
		}
		for _, bias := range []int64{c.left + 1, -c.left - 1, most, -most - 1, 1<<63 - 1, -1 << 63} {
			l.Biases = []int64{0, bias}
			unpacked(t, "a bias", c.n, end, api.ErrReach)
		}
	}
}

// TestPools: a pool has its Kind and its window, and nothing else.
func TestPools(t *testing.T) {
	w := win(2, 3, 1, 2, 0, 0, 0, 0)
	n := network(of(5, 8, 2), conv(65, point(), 2), pool(w), pool(w), dense(2, count(outOf(pool(w), outOf(pool(w), of(5, 8, 65))))), last(1, 2))
	alike(t, "pools", n)
	m, _, _ := convert.Of(n)
	for _, p := range m.Packs[1:3] {
		if p.Kind != api.LPool || p.Win != w || p.Weight != 0 || p.K != 0 || p.Border != 0 || len(p.Rows)+len(p.Threshes)+len(p.Biases) != 0 {
			t.Errorf("P20.1: an LPool becomes %+v", p)
		}
	}
}

// TestHowManyLayers: one layer to 64.
func TestHowManyLayers(t *testing.T) {
	for layers := range 64 {
		n := network(of(2, 1, 1))
		for i := range layers {
			n.Layers = append(n.Layers, []api.Layer{dense(2, 2), conv(2, point(), 2), pool(point())}[i%3])
		}
		n.Layers = append(n.Layers, last(2, 2))
		alike(t, "layers", n)
	}
}

// TestMuch: as many weights as there may be, of one layer and of several; the rows that take the most room for what they hold.
func TestMuch(t *testing.T) {
	square := network(of(1, 1, 512), slices.Repeat([]api.Layer{dense(512, 512)}, 63)...)
	square.Layers = append(square.Layers, last(512, 512))
	for what, n := range map[string]api.Net{
		"64 layers":                  square,
		"one layer":                  network(of(1, 1, 4096), last(4096, 4096)),
		"a convolution":              network(of(1, 1, 4096), conv(4095, point(), 4096), dense(1, 4095), last(1, 1)),
		"one output":                 network(of(4095, 4096, 1), last(1, 4095*4096)),
		"one output, behind a layer": network(of(4096, 4095, 1), conv(1, point(), 1), last(1, 4096*4095)),
		"words of one channel":       network(of(15, 15, 1), conv(4096, win(15, 15, 1, 1, 0, 0, 0, 0), 1), last(1, 4096)),
	} {
		becomes(t, what, n, meant(n))
	}
}
