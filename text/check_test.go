package text_test

import (
	"slices"
	"strconv"
	"strings"
	"testing"

	"heddle/api"
	"heddle/net"
	"heddle/text"
)

// rows are lines of weights.
func rows(k int, row string) string { return strings.Repeat("w "+row+"\n", k) }

// rules are lines of norms.
func rules(k int) string { return strings.Repeat("n 1 0 0 1\n", k) }

// checked holds a text whose lines are as they should be against the fault of its network; lines that are passed over move it.
func checked(t *testing.T, what, s string, at int, e api.Errno) {
	t.Helper()
	refused(t, what, s, at, e)
	refused(t, what+", lower", "\n# a note\n"+s, at+2, e)
	refused(t, what+", with more lines", strings.ReplaceAll(s, "\n", "\n\n\n"), 3*at-2, e)
}

// TestFaultsOfNetworks: each fault of the network, and the line where it is told.
func TestFaultsOfNetworks(t *testing.T) {
	in := func(line string) string { return with(mixedText, 2, line) }
	checked(t, "a name", with(mixedText, 1, "net a.b"), 1, api.ErrName)
	checked(t, "a long name", with(mixedText, 1, "net "+strings.Repeat("a", 33)), 1, api.ErrName)
	for _, line := range []string{"input 0 3 2", "input 4 0 2", "input 4 3 0", "input -4 3 2", "input 4097 3 2", "input 4 4097 2", "input 4 3 4097", "input 4097 4096 4096"} {
		checked(t, "an input", in(line), 2, api.ErrShape)
	}
	checked(t, "a big input", in("input 4096 4096 2"), 2, api.ErrBig)
	checked(t, "the name ahead of the input", with(in("input 0 0 0"), 1, "net !"), 1, api.ErrName)
	checked(t, "no layers", "net a\ninput 1 1 3\nend\n", 3, api.ErrLayers)
	checked(t, "the input ahead of the layers", "net a\ninput 1 1 0\nend\n", 2, api.ErrShape)
	checked(t, "a big input ahead of the layers", "net a\ninput 4096 4096 4096\nend\n", 2, api.ErrBig)

	conv := func(old, new string) string { return with(mixedText, 3, swap(split(mixedText)[2], old, new)) }
	pool := func(line string) string { return with(mixedText, 8, line) }
	for _, s := range []string{
		conv("conv 2 2 3", "conv 2 0 3"), conv("conv 2 2 3", "conv 2 2 16"), conv("conv 2 2 3", "conv 2 -1 3"),
		conv("step 2 1", "step 0 1"), conv("step 2 1", "step 2 16"), conv("step 2 1", "step -2 1"),
		conv("pad 1 0 2 3", "pad -1 0 2 3"), conv("pad 1 0 2 3", "pad 1 15 2 3"), conv("pad 1 0 2 3", "pad 1 0 -2 3"), conv("pad 1 0 2 3", "pad 1 0 2 15"),
		conv("border -1", "border 2"), conv("border -1", "border -2"), conv("pad 1 0 2 3", "pad 0 0 0 0"),
	} {
		checked(t, "a convolution's window", s, 3, api.ErrWindow)
	}
	for _, line := range []string{"pool 0 1 step 1 3", "pool 2 16 step 1 3", "pool 2 1 step 0 3", "pool 2 1 step 1 16", "pool -2 1 step 1 3"} {
		checked(t, "a pool's window", pool(line), 8, api.ErrWindow)
	}
	checked(t, "a convolution that does not fit", conv("conv 2 2 3", "conv 2 8 3"), 3, api.ErrFit)
	checked(t, "a pool that does not fit", pool("pool 4 1 step 1 3"), 8, api.ErrFit)
	checked(t, "a pool that leaves other elements", pool("pool 2 1 step 1 1"), 9, api.ErrWeight)

	checked(t, "a convolution's outputs", "net a\ninput 1 1 1\nconv 0 1 1 step 1 1 pad 0 0 0 0 border 0 binary\ndense 1 binary\nw +\nbiases 1\nend\n", 3, api.ErrShape)
	checked(t, "a nought of binary weights", with(mixedText, 11, "w +-+-+++0"), 9, api.ErrWeight)
	checked(t, "a weight less in each row", fewer(mixedText, 10, 3), 9, api.ErrWeight)
	checked(t, "a convolution's weight less in each row", fewer(mixedText, 4, 2), 3, api.ErrWeight)
	checked(t, "an S of 0", with(mixedText, 7, "n 1 0 0 0"), 3, api.ErrNorm)
	checked(t, "an S below 0", with(mixedText, 15, "n 1 0 0 -1/2"), 9, api.ErrNorm)
	checked(t, "an S of 0 over a denominator", with(mixedText, 13, "n 1 0 0 0/9"), 9, api.ErrNorm)
	checked(t, "biases ahead of the last layer", with(with(with(mixedText, 15), 14), 13, "biases 1 2 3"), 9, api.ErrNorm)
	checked(t, "a convolution's biases", with(with(mixedText, 7), 6, "biases 1 2"), 3, api.ErrNorm)
	checked(t, "norms of the last layer", with(mixedText, 19, "n 1 0 0 1", "n 1 0 0 1"), 16, api.ErrBias)
	checked(t, "a bias too few", with(mixedText, 19, "biases 1"), 16, api.ErrBias)
	checked(t, "a bias too many", with(mixedText, 19, "biases 1 2 3"), 16, api.ErrBias)
	checked(t, "no biases", with(mixedText, 19, "biases"), 16, api.ErrBias)
	checked(t, "a bias too great", with(mixedText, 19, "biases 0 2147483645"), 16, api.ErrReach)
	checked(t, "a bias too small", with(mixedText, 19, "biases -2147483645 0"), 16, api.ErrReach)
	checked(t, "two layers with faults", with(with(mixedText, 19, "biases 1"), 15, "n 1 0 0 0"), 9, api.ErrNorm)
	checked(t, "two faults of a layer", with(with(mixedText, 11, "w +-+-+++0"), 15, "n 1 0 0 0"), 9, api.ErrWeight)
}

// fewer is a text in which some rows of weights have lost their last one.
func fewer(s string, at, count int) string {
	for i := range count {
		line := split(s)[at+i-1]
		s = with(s, at+i, line[:len(line)-1])
	}
	return s
}

// TestFaultsOfOrderAndSize: layers in a wrong order, and what is too big.
func TestFaultsOfOrderAndSize(t *testing.T) {
	last := "dense 1 binary\nw +\nbiases 1\nend\n"
	head := "net a\ninput 1 1 1\n"
	checked(t, "a pool first", head+"pool 1 1 step 1 1\n"+last, 3, api.ErrLayers)
	checked(t, "a pool alone", head+"pool 1 1 step 1 1\nend\n", 3, api.ErrLayers)
	checked(t, "a pool last", head+"dense 1 binary\nw +\nn 1 0 0 1\npool 1 1 step 1 1\nend\n", 6, api.ErrLayers)
	checked(t, "a convolution last", head+"conv 1 1 1 step 1 1 pad 0 0 0 0 border 0 binary\nw +\nbiases 1\nend\n", 3, api.ErrLayers)
	for _, count := range []int{63, 64, 65, 66, 1000} {
		s := head + strings.Repeat("dense 1 binary\nw +\nn 1 0 0 1\n", count-1) + last
		if count > 64 {
			checked(t, "too many layers", s, 3+3*count, api.ErrLayers)
		} else if n, at, e := text.Parse(s); e != api.OK || at != 0 || len(n.Layers) != count {
			t.Errorf("P7.1: %d layers: line %d, %d", count, at, e)
		}
	}
	point := " 1 1 step 1 1 pad 0 0 0 0 border 0 binary\n"
	for _, k := range []int{4095, 4096, 4097} {
		number := strconv.Itoa(k)
		s := head + "conv " + number + point + rows(k, "+") + rules(k) + "dense " + number + " binary\n" + rows(k, strings.Repeat("+", k)) + "biases" + strings.Repeat(" 1", k) + "\nend\n"
		refused(t, "more weights than a text can have", s, 0, api.ErrLong)
		s = head + "dense " + number + " binary\n" + rows(k, "+") + "biases" + strings.Repeat(" 1", k) + "\nend\n"
		conv := head + "conv " + number + point + rows(k, "+") + rules(k) + "dense 1 binary\n" + rows(1, strings.Repeat("+", k)) + "biases 1\nend\n"
		if k > 4096 {
			checked(t, "too many outputs", s, 3, api.ErrShape)
			checked(t, "too many outputs of a convolution", conv, 3, api.ErrShape)
			continue
		}
		for _, s := range []string{s, conv} {
			if n, at, e := text.Parse(s); e != api.OK || at != 0 || n.Layers[0].K != k || len(n.Layers[0].Weights) != k {
				t.Errorf("P7.1: %d outputs: line %d, %d", k, at, e)
			}
		}
	}
	checked(t, "a side too long by its borders", "net a\ninput 4096 1 1\nconv 1 1 1 step 1 1 pad 1 0 0 0 border 0 binary\nw +\nn 1 0 0 1\n"+last, 3, api.ErrShape)
	checked(t, "a big output", "net a\ninput 4096 2 1\nconv 4096"+point+rows(4096, "+")+rules(4096)+last, 3, api.ErrBig)
	checked(t, "too many weights, if they were there", "net a\ninput 1 2 4096\ndense 4096 binary\n"+rows(4096, "+")+"biases"+strings.Repeat(" 1", 4096)+"\nend\n", 3, api.ErrBig)
	checked(t, "too many weights with those ahead", "net a\ninput 1 1 1\ndense 4096 binary\n"+rows(4096, "+")+rules(4096)+"dense 4096 binary\n"+rows(4096, "+")+"biases"+strings.Repeat(" 1", 4096)+"\nend\n", 4+2*4096, api.ErrBig)
}

// TestNumbersOfNetworks: any number in any place of a good network, told as net.Check tells it.
func TestNumbersOfNetworks(t *testing.T) {
	values := []int{-1 << 63, -4097, -1, 0, 1, 2, 3, 4, 14, 15, 16, 4096, 4097, 1 << 32, 1<<63 - 1}
	for _, make := range []func() api.Net{tiny, edge, mixed} {
		whole := make()
		for at := range places(&whole) {
			for _, v := range values {
				n := make()
				*places(&n)[at] = v
				against(t, spelled(n))
			}
		}
	}
}

// places are the numbers of a network but the Ks, which say how many lines there are.
func places(n *api.Net) []*int {
	all := []*int{&n.In.H, &n.In.W, &n.In.C}
	for i := range n.Layers {
		l := &n.Layers[i]
		w := &l.Win
		if l.Kind == api.LConv {
			all = append(all, &w.Top, &w.Left, &w.Bottom, &w.Right, &l.Border)
		}
		if l.Kind != api.LDense {
			all = append(all, &w.StepY, &w.StepX)
		}
		if l.Kind == api.LPool {
			all = append(all, &w.R, &w.S)
		}
	}
	return all
}

// TestUnprinted: networks that may not be, also such as the form could not write.
func TestUnprinted(t *testing.T) {
	for what, do := range map[string]func(n *api.Net){
		"no name":                     func(n *api.Net) { n.Name = "" },
		"a name of two words":         func(n *api.Net) { n.Name = "a b" },
		"a name with a note":          func(n *api.Net) { n.Name = "a#b" },
		"a name of two lines":         func(n *api.Net) { n.Name = "a\nb" },
		"no height":                   func(n *api.Net) { n.In.H = 0 },
		"a big input":                 func(n *api.Net) { n.In = of(4096, 4096, 2) },
		"no layers":                   func(n *api.Net) { n.Layers = nil },
		"no layers, an empty list":    func(n *api.Net) { n.Layers = []api.Layer{} },
		"65 layers":                   func(n *api.Net) { n.Layers = slices.Repeat(n.Layers[:1], 65) },
		"a kind that is none":         func(n *api.Net) { n.Layers[0].Kind = 4 },
		"a kind 0":                    func(n *api.Net) { n.Layers[3].Kind = 0 },
		"a pool last":                 func(n *api.Net) { n.Layers = n.Layers[:2] },
		"no outputs":                  func(n *api.Net) { n.Layers[0].K = 0 },
		"outputs below 0":             func(n *api.Net) { n.Layers[3].K = -1 },
		"far too many outputs":        func(n *api.Net) { n.Layers[3].K = 1<<63 - 1 },
		"a pool with outputs":         func(n *api.Net) { n.Layers[1].K = 1 },
		"a pool with norms":           func(n *api.Net) { n.Layers[1].Norms = []api.Norm{step()} },
		"a pool with borders":         func(n *api.Net) { n.Layers[1].Win.Top = 1 },
		"a pool with weights":         func(n *api.Net) { n.Layers[1].Weights = []int8{1} },
		"a dense layer with a window": func(n *api.Net) { n.Layers[2].Win = win(1, 1, 1, 1, 0, 0, 0, 0) },
		"a dense layer with a border": func(n *api.Net) { n.Layers[2].Border = 1 },
		"a window":                    func(n *api.Net) { n.Layers[0].Win.R = 16 },
		"no window":                   func(n *api.Net) { n.Layers[0].Win = api.Window{} },
		"a window that does not fit":  func(n *api.Net) { n.Layers[0].Win.R = 8 },
		"weights of no kind":          func(n *api.Net) { n.Layers[0].Weight = 3 },
		"weights of a kind below 0":   func(n *api.Net) { n.Layers[2].Weight = -1 },
		"a weight of 2":               func(n *api.Net) { n.Layers[0].Weights[3] = 2 },
		"a weight of -128":            func(n *api.Net) { n.Layers[0].Weights[3] = -128 },
		"a weight of 127":             func(n *api.Net) { n.Layers[3].Weights[5] = 127 },
		"a nought of binary weights":  func(n *api.Net) { n.Layers[2].Weights[0] = 0 },
		"a weight too few":            func(n *api.Net) { n.Layers[0].Weights = n.Layers[0].Weights[:23] },
		"no weights":                  func(n *api.Net) { n.Layers[3].Weights = nil },
		"a norm too few":              func(n *api.Net) { n.Layers[0].Norms = n.Layers[0].Norms[:1] },
		"a fraction that is none":     func(n *api.Net) { n.Layers[0].Norms[1].G.Den = 0 },
		"a norm that is none":         func(n *api.Net) { n.Layers[2].Norms[1].S.Num = 0 },
		"norms and biases":            func(n *api.Net) { n.Layers[2].Biases = []int64{1, 2, 3} },
		"biases and norms":            func(n *api.Net) { n.Layers[3].Norms = []api.Norm{step(), step()} },
		"a bias too few":              func(n *api.Net) { n.Layers[3].Biases = n.Layers[3].Biases[:1] },
		"no biases":                   func(n *api.Net) { n.Layers[3].Biases = nil },
		"a bias too great":            func(n *api.Net) { n.Layers[3].Biases[0] = 1<<63 - 1 },
	} {
		n := mixed()
		do(&n)
		_, e := net.Check(n)
		if e == api.OK {
			t.Fatalf("the test's own network may be: %s", what)
		}
		unprinted(t, what, n, e)
	}
	unprinted(t, "nothing", api.Net{}, api.ErrName)
	unprinted(t, "a name alone", api.Net{Name: "a"}, api.ErrShape)
	unprinted(t, "a name and an input", api.Net{Name: "a", In: of(1, 1, 1)}, api.ErrLayers)
}
