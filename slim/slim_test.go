package slim_test

import (
	"slices"
	"testing"

	"heddle/api"
	"heddle/net"
)

// TestOneStep: each kind of layer ahead, pluses and minuses of each value, and biases in the place of M.
func TestOneStep(t *testing.T) {
	n := network(of(1, 1, 1), dense(read("+-+0+"), always(), from(0), never(), from(0), from(3)), last(read("+++++ -+-0- 0+0++ ++-+0"), 0, 10, -10, 5))
	walks(t, "an LDense", n, 0)
	want := network(of(1, 1, 1), dense(read("-+"), from(0), from(3)), last(read("++ +- ++ +0"), 1, 10, -9, 8))
	becomes(t, "an LDense", n, want)

	norms := []api.Norm{from(0), upTo(1), {G: fr(1, 3), B: fr(-1, 2), M: fr(5, 4), S: fr(2, 7)}}
	n = network(of(1, 1, 1), dense(read("+++++"), from(0), always(), from(1), from(2), from(3)), dense(read("+++++ ----- +0+-+"), norms...), last(read("+++"), 0))
	walks(t, "norms behind", n, 0)
	want = network(of(1, 1, 1), dense(read("++++"), froms(0, 1, 2, 3)...), dense(read("++++ ---- ++-+"), from(-1), upTo(2), norms[2]), last(read("+++"), 0))
	becomes(t, "norms behind", n, want)

	n.Layers[0].Norms[1] = never()
	want.Layers[1].Norms[0], want.Layers[1].Norms[1] = from(1), upTo(0)
	becomes(t, "norms behind, of a minus", n, want)
}

// TestFractionsBehind: M with its denominator, the other three as they were.
func TestFractionsBehind(t *testing.T) {
	mid := api.Norm{G: fr(3, 5), B: fr(1, 9), M: fr(1, 6), S: fr(7, 2)}
	n := network(of(1, 1, 1), dense(read("++++++"), from(0), always(), always(), from(9), from(8), from(7)), dense(read("+++-++ +---++ +00+++"), mid, mid, mid), last(read("+++"), 4))
	walks(t, "fractions behind", n, 0)
	less, more := mid, mid
	less.M, more.M = fr(-11, 6), fr(13, 6)
	want := network(of(1, 1, 1), dense(read("++++"), froms(0, 9, 8, 7)...), dense(read("+-++ +-++ ++++"), less, more, mid), last(read("+++"), 4))
	becomes(t, "fractions behind", n, want)
}

// TestLeastNumbers: every fraction of every norm, whether there is a step or none.
func TestLeastNumbers(t *testing.T) {
	wide := api.Norm{G: fr(6, 4), B: fr(-10, 4), M: fr(0, 1048576), S: fr(9, 12)}
	least := api.Norm{G: fr(3, 2), B: fr(-5, 2), M: fr(0, 1), S: fr(3, 4)}
	becomes(t, "no step", network(of(1, 1, 1), conv(point(), 0, read("+-"), wide, wide), pool(point()), conv(point(), 0, read("++"), wide), last(read("+"), 3)),
		network(of(1, 1, 1), conv(point(), 0, read("+-"), least, least), pool(point()), conv(point(), 0, read("++"), least), last(read("+"), 3)))
	becomes(t, "a step", network(of(1, 1, 1), dense(read("+-"), wide, never()), dense(read("+- 0+"), wide, wide), last(read("+-"), 3)),
		func() api.Net {
			up, down := least, least
			up.M, down.M = fr(-1, 1), fr(1, 1)
			// The first output behind wants at least 5/4 - 1, the second one 5/4 + 1 of nothing, and goes.
			return network(of(1, 1, 1), dense(read("+"), least), dense(read("+"), up), last(read("+"), 4))
		}())
	far := api.Norm{G: fr(-most, 1), B: fr(1<<30, 1<<20), M: fr(-1<<30, 1<<19), S: fr(most-1, 2)}
	far2 := api.Norm{G: fr(-most, 1), B: fr(1024, 1), M: fr(-2048, 1), S: fr(1073741823, 1)}
	becomes(t, "no layer but the last", network(of(1, 1, 1), last(read("+"), 3)), network(of(1, 1, 1), last(read("+"), 3)))
	becomes(t, "great numbers", network(of(1, 1, 1), dense(read("+"), far), last(read("+"), 3)), network(of(1, 1, 1), dense(read("+"), far2), last(read("+"), 3)))
}

// TestLeastNumbersAhead: fractions are put in their least numbers ahead of the steps, not behind them: M's numerator as it stands would leave its bounds.
func TestLeastNumbersAhead(t *testing.T) {
	mid := api.Norm{G: fr(1, 1), B: fr(-(most-1)/2, 1), M: fr(-(most - 1), 2), S: fr(1, 1)}
	n := network(of(1, 1, 1), dense(read("+++"), from(0), always(), from(5)), dense(read("+++ +++"), mid, from(0)), last(read("++"), 0))
	walks(t, "a numerator that fits when reduced", n, 0)
	less := mid
	less.M = fr(-(most-1)/2-1, 1)
	becomes(t, "a numerator that fits when reduced", n, network(of(1, 1, 1), dense(read("++"), froms(0, 5)...), dense(read("++ ++"), less, from(-1)), last(read("++"), 0)))
}

// TestStepInEachLayer: layers with dead outputs of their own.
func TestStepInEachLayer(t *testing.T) {
	n := network(of(1, 1, 1),
		dense(read("+++"), from(0), never(), from(7)),
		dense(read("+++ -+- ++- 0+0"), from(0), from(99), from(0), always()),
		dense(read("++++ --++"), from(-1), upTo(1)),
		last(read("++ -+"), 1, 2))
	walks(t, "three layers", n, 0, 1)
	becomes(t, "three layers", n, network(of(1, 1, 1),
		dense(read("++"), from(0), from(7)),
		dense(read("++ +-"), from(1), from(1)),
		dense(read("++ -+"), from(-1), upTo(-1)),
		last(read("++ -+"), 1, 2)))

	n.Layers[2].Norms[1] = never()
	walks(t, "three layers, all with a step", n, 0, 1, 2)
	becomes(t, "three layers, all with a step", n, network(of(1, 1, 1),
		dense(read("++"), from(0), from(7)),
		dense(read("++ +-"), from(1), from(1)),
		dense(read("++"), from(-1)),
		last(read("+ -"), 0, 1)))
}

// TestStepBehindAStep: what goes narrows the sums behind it, and more goes there.
func TestStepBehindAStep(t *testing.T) {
	n := network(of(1, 1, 1), dense(read("++"), from(0), always()), dense(read("++ +-"), from(0), from(0)), last(read("++"), 5))
	dead(t, "ahead of the step", n, 1)
	walks(t, "a step behind a step", n, 0, 1)
	// x + 1 is at least 0 always; x - 1 is at least 0 where x is 1.
	becomes(t, "a step behind a step", n, network(of(1, 1, 1), dense(read("+"), from(0)), dense(read("+"), from(1)), last(read("+"), 6)))

	chain := network(of(1, 1, 1), dense(read("++"), from(0), never()), dense(read("++ ++"), from(1), from(2)), dense(read("++ ++"), from(2), from(-1)), dense(read("++ --"), from(1), from(1)), last(read("++"), 0))
	walks(t, "a chain", chain, 0, 1, 2, 3)
	becomes(t, "a chain", chain, network(of(1, 1, 1), dense(read("+"), from(0)), dense(read("+"), from(2)), dense(read("+"), from(0)), dense(read("-"), from(0)), last(read("+"), -1)))
}

// TestStepAheadOfAStep: an output that barred a step goes, and the step is taken after all; outputs that were barred go in a later round.
func TestStepAheadOfAStep(t *testing.T) {
	for _, bar := range []api.Norm{norm(1, 0, -most, 1), norm(-1, 0, -most, 1), norm(0, 0, -most, 1), norm(0, -1, -most, 1)} {
		value := int64(-1)
		if bar.G.Num == 1 || bar.G.Num == 0 && bar.B.Num == 0 {
			value = 1
		}
		n := network(of(1, 1, 1), dense(read("+++"), from(0), always(), from(4)), dense(read("+++ ++-"), bar, from(1)), last(read("++ 0-"), 5, 6))
		walks(t, "a step ahead", n, 1, 0)
		becomes(t, "a step ahead", n, network(of(1, 1, 1), dense(read("++"), from(0), from(4)), dense(read("+-"), from(0)), last(read("+ -"), 5+value, 6)))
	}
	// From the last but one up: each step takes what barred the one ahead of it.
	n := network(of(1, 1, 1),
		dense(read("+++"), from(0), always(), from(4)),
		dense(read("+++ +++ ++0"), from(1), from(2), brink(-most, 0)),
		dense(read("+++ +++"), norm(1, 0, -most, 1), from(0)),
		last(read("++"), 5))
	walks(t, "barred for good", n, 2)
	n.Layers[1].Norms[2] = norm(1, 0, -most, 1)
	walks(t, "rounds", n, 2, 1, 0)
	becomes(t, "rounds", n, network(of(1, 1, 1),
		dense(read("++"), from(0), from(4)),
		dense(read("++ ++"), from(0), from(1)),
		dense(read("++"), from(-1)),
		last(read("+"), 6)))
}

// TestLaterRound: an output that is dead only behind a step ahead of it, which is barred at first.
func TestLaterRound(t *testing.T) {
	n := network(of(1, 1, 1),
		dense(read("+++"), from(0), always(), from(4)),
		dense(read("0+0 +++ +0-"), norm(1, 0, -most, 1), from(3), from(1)),
		dense(read("+++ ++-"), from(0), from(1)),
		last(read("++"), 5))
	dead(t, "at first", n, 1, 0)
	walks(t, "a later round", n, 1, 0)
	n.Layers[1].Weights = read("0+0 +++ 0+0")
	n.Layers[1].Norms[2] = from(1)
	dead(t, "at first", n, 1, 0)
	walks(t, "a later round", n, 1, 0, 1, 2)
	want, _ := meantSlim(t, n)
	becomes(t, "a later round", n, want)
	if want.Layers[1].K != 1 {
		t.Errorf("the second layer has %d outputs", want.Layers[1].K)
	}
}

// TestAllDead: the first output stays, whatever its value, and then nothing more goes.
func TestAllDead(t *testing.T) {
	for _, c := range []struct {
		norms  []api.Norm
		biases []int64
	}{
		{[]api.Norm{always(), never(), from(-999)}, []int64{0, 10, 21}},
		{[]api.Norm{never(), never(), upTo(999)}, []int64{0, 10, 21}},
		{[]api.Norm{from(-999), always(), always()}, []int64{2, 10, 19}},
		{[]api.Norm{from(999), upTo(-999), from(999)}, []int64{-2, 10, 21}},
	} {
		n := network(of(1, 1, 2), dense(read("+- ++ 0-"), c.norms...), last(read("+++ -00 +-0"), 0, 10, 20))
		dead(t, "all", n, 0, 0, 1, 2)
		walks(t, "all outputs dead", n, 0)
		m := network(of(1, 1, 2), dense(read("+-"), c.norms[0]), last(read("+ - +"), c.biases...))
		dead(t, "the one that stays", m, 0, 0)
		becomes(t, "all outputs dead", n, m)
	}
	alone := network(of(1, 1, 2), dense(read("+-"), always()), last(read("+ -"), 1, 2))
	walks(t, "one output, dead", alone)
	becomes(t, "one output, dead", alone, alone)
	// In each layer: the first ones stay, though they are dead.
	n := network(of(1, 1, 1), conv(point(), 0, read("+-"), never(), always()), dense(read("+- -+"), always(), always()), dense(read("++ --"), never(), always()), last(read("+-"), 0))
	walks(t, "all of all layers dead", n, 0, 1, 2)
	becomes(t, "all of all layers dead", n, network(of(1, 1, 1), conv(point(), 0, read("+"), never()), dense(read("+"), norm(0, 0, 1, 1)), dense(read("+"), norm(0, -1, -1, 1)), last(read("+"), -1)))
}

// TestConvAhead: the weights for all places of a channel go.
func TestConvAhead(t *testing.T) {
	n := network(of(2, 2, 1),
		conv(win(1, 1, 1, 1, 0, 0, 0, 1), 1, read("+-0"), from(0), never(), from(1)),
		last(read("+++ +-- 0+0 ++0 -+- --0"+"+++ 0+0 0-0 +++ 0+0 +++"), 0, 0))
	walks(t, "an LConv", n, 0)
	becomes(t, "an LConv", n, network(of(2, 2, 1), conv(win(1, 1, 1, 1, 0, 0, 0, 1), 1, read("+"), from(0)), last(read("++0+--"+"+00+0+"), -1, -7)))

	n = network(of(2, 3, 2),
		conv(win(2, 2, 1, 1, 0, 0, 0, 0), 0, read("++++++++ --------"), always(), from(0)),
		dense(read("++++ +-+- ---+"), froms(1, 2, -1)...),
		last(read("+++"), 0))
	walks(t, "an LConv, norms behind", n, 0)
	becomes(t, "an LConv, norms behind", n, network(of(2, 3, 2),
		conv(win(2, 2, 1, 1, 0, 0, 0, 0), 0, read("--------"), from(0)),
		dense(read("++ -- -+"), froms(-1, 0, 1)...),
		last(read("+++"), 0)))
}

// TestNoStep: an LConv or an LPool behind, and the last layer itself.
func TestNoStep(t *testing.T) {
	for what, behind := range map[string]api.Layer{"an LPool": pool(point()), "an LConv": conv(point(), 0, read("+-+-"), from(0), from(1))} {
		for ahead, first := range map[string]api.Layer{"an LConv": conv(point(), 0, read("++"), always(), from(0)), "an LDense": dense(read("++"), always(), from(0))} {
			n := network(of(1, 1, 1), first, behind, last(read("+-"), 3))
			dead(t, what+" behind "+ahead, n, 0, 0)
			walks(t, what+" behind "+ahead, n)
			becomes(t, what+" behind "+ahead, n, n)
		}
	}
	// Behind an LConv that stands behind a dead output there is a step all the same.
	n := network(of(1, 1, 1), dense(read("++"), always(), from(0)), conv(point(), 0, read("+- ++ 0+"), from(0), never(), always()), dense(read("+++ --+"), from(0), from(2)), last(read("++"), 0))
	walks(t, "behind an LConv", n, 1)
	becomes(t, "behind an LConv", n, network(of(1, 1, 1), dense(read("++"), always(), from(0)), conv(point(), 0, read("+-"), from(0)), dense(read("+ -"), from(0), from(0)), last(read("++"), 0)))
	// An LPool ahead of an LDense has no step, whatever comes in to it.
	n = network(of(1, 2, 1), conv(point(), 0, read("++"), always(), never()), pool(win(1, 2, 1, 1, 0, 0, 0, 0)), dense(read("+- -+"), from(0), from(0)), last(read("++"), 0))
	walks(t, "an LPool ahead", n)
	becomes(t, "an LPool ahead", n, n)
}

// bars is a network whose first layer's step is worth c to the one output behind it that has the norm, and that stays; the last layer but one has a step of its own.
func bars(c int, mid api.Norm) api.Net {
	gone := max(c, -c)
	sign := read("+")
	if c < 0 {
		sign = read("-")
	}
	return network(of(1, 1, 1),
		dense(slices.Repeat(read("+"), 8+gone), append(froms(0, 1, 2, 3, 4, 5, 6, 7), slices.Repeat([]api.Norm{always()}, gone)...)...),
		dense(slices.Concat(read("++++++++"), make([]int8, gone), read("++++++++"), slices.Repeat(sign, gone), read("--------"), make([]int8, gone)), from(0), mid, from(1)),
		dense(read("++0 +-+"), always(), from(0)),
		last(read("++"), 0))
}

// barred is what becomes of it if its first layer keeps all.
func barred(n api.Net) api.Net {
	n = net.Clone(n)
	n.Layers[2] = dense(read("+-+"), from(0))
	n.Layers[3] = last(read("+"), 1)
	return n
}

// TestBars: M's numerator at its bounds and one beyond, at either end, at one output of three.
func TestBars(t *testing.T) {
	over := func(num, den int64, b int64) api.Norm {
		n := norm(1, b, 0, 1)
		n.M = fr(num, den)
		return n
	}
	far := int64(most) / 3 // what M is worth with the denominator 3, rounded
	for _, c := range []struct {
		what  string
		c     int
		norm  api.Norm
		steps []int
	}{
		{"just at the lower end", 1, brink(1-most, 0), []int{0, 2}},
		{"one below it", 1, brink(-most, 0), []int{2}},
		{"just at the upper end", -1, brink(most-1, 0), []int{0, 2}},
		{"one above it", -1, brink(most, 0), []int{2}},
		{"several, just at the lower end", 5, brink(5-most, 0), []int{0, 2}},
		{"several, one below it", 5, brink(4-most, 0), []int{2}},
		{"several, just at the upper end", -5, brink(most-5, 0), []int{0, 2}},
		{"several, one above it", -5, brink(most-4, 0), []int{2}},
		{"away from the lower end", -1, brink(-most, 0), []int{0, 2}},
		{"away from the upper end", 1, brink(most, 0), []int{0, 2}},
		{"a third, just at the lower end", 1, over(3-most, 3, -far), []int{0, 2}},
		{"a third, one below it", 1, over(2-most, 3, -far), []int{2}},
		{"a third, just at the upper end", -1, over(most-3, 3, far), []int{0, 2}},
		{"a third, one above it", -1, over(most-2, 3, far), []int{2}},
		{"the greatest denominator, just at the upper end", -2, over(most-2<<20, 1<<20, 2046), []int{0, 2}},
		{"the greatest denominator, beyond it", -2, over(most-2<<20+2, 1<<20, 2046), []int{2}},
	} {
		n := bars(c.c, c.norm)
		dead(t, c.what, n, 1)
		walks(t, c.what, n, c.steps...)
		want := barred(n)
		if len(c.steps) == 2 {
			want.Layers[0] = dense(read("++++++++"), froms(0, 1, 2, 3, 4, 5, 6, 7)...)
			want.Layers[1].Weights = read("++++++++ ++++++++ --------")
			want.Layers[1].Norms[1].M.Num -= int64(c.c) * want.Layers[1].Norms[1].M.Den
		}
		becomes(t, c.what, n, want)
	}
}

// TestBarAtEachOutput: it is enough that one norm cannot take the worth up, whichever it is.
func TestBarAtEachOutput(t *testing.T) {
	for j := range 4 {
		norms := froms(0, 0, 0, 0)
		norms[j] = brink(-most, 0)
		n := network(of(1, 1, 1), dense(read("+++"), from(0), always(), from(3)), dense(read("+++ +++ +++ +++"), norms...), last(read("++++"), 0))
		walks(t, "a bar", n)
		becomes(t, "a bar", n, n)
		norms[j] = brink(1-most, 0)
		walks(t, "no bar", n, 0)
	}
}

// TestStepBehindABar: the layer whose norm bars the step ahead has a step of its own, and the norm bars on.
func TestStepBehindABar(t *testing.T) {
	for _, c := range []struct {
		row string
		m   int64
	}{{"+++", -most}, {"+-+", most}} {
		n := network(of(1, 1, 1), dense(read("+++"), from(0), always(), from(3)), dense(read(c.row+"+++ ++-"), brink(c.m, 0), from(0), always()), last(read("+++"), 5))
		walks(t, "a step behind a bar", n, 1)
		becomes(t, "a step behind a bar", n, network(of(1, 1, 1), dense(read("+++"), from(0), always(), from(3)), dense(read(c.row+"+++"), brink(c.m, 0), from(0)), last(read("++"), 6)))
	}
}

// TestBiasesAtTheirBounds: the last layer's biases are no bar, as great as they may be.
func TestBiasesAtTheirBounds(t *testing.T) {
	for _, b := range []int64{most - 3, 3 - most} {
		n := network(of(1, 1, 1), dense(read("+++"), from(0), always(), never()), last(read("++- 0-+ +++"), b, b, b))
		walks(t, "biases", n, 0)
		becomes(t, "biases", n, network(of(1, 1, 1), dense(read("+"), from(0)), last(read("+ 0 +"), b+2, b-2, b)))
	}
}

// TestManyLayers: as many as there may be, each with a dead output.
func TestManyLayers(t *testing.T) {
	n := network(of(1, 1, 1), dense(read("++"), from(0), always()))
	want := network(of(1, 1, 1), dense(read("+"), from(0)))
	for range 62 {
		n.Layers = append(n.Layers, dense(read("+0 0+"), from(0), always()))
		want.Layers = append(want.Layers, dense(read("+"), from(0)))
	}
	n.Layers, want.Layers = append(n.Layers, last(read("++"), 9)), append(want.Layers, last(read("+"), 10))
	becomes(t, "64 layers", n, want)
}

// TestManyWeights: nearly as many as there may be, with half of the outputs dead.
func TestManyWeights(t *testing.T) {
	const outputs, fan = 4000, 4096
	d := dice(9)
	n := network(of(1, 1, fan), dense(d.weights(outputs*fan)), last(d.weights(2*outputs), 1, -1))
	want := network(n.In, dense(nil), last(nil, 1, -1))
	kept := [2][]int8{}
	for k := range outputs {
		value := int64(k%4 - 1) // -1, 0 (it stays), 1, 2 (it stays)
		norm := []api.Norm{never(), from(0), always(), upTo(5)}[k%4]
		n.Layers[0].Norms = append(n.Layers[0].Norms, norm)
		for j := range kept {
			w := n.Layers[1].Weights[j*outputs+k]
			if k%2 == 0 {
				want.Layers[1].Biases[j] += value * int64(w)
				continue
			}
			kept[j] = append(kept[j], w)
		}
		if k%2 == 1 {
			want.Layers[0].Norms = append(want.Layers[0].Norms, norm)
			want.Layers[0].Weights = append(want.Layers[0].Weights, n.Layers[0].Weights[k*fan:(k+1)*fan]...)
		}
	}
	n.Layers[0].K, want.Layers[0].K = outputs, outputs/2
	want.Layers[1].Weights = slices.Concat(kept[0], kept[1])
	becomes(t, "many weights", n, want)
}
