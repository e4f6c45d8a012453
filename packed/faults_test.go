package packed_test

import (
	"math"
	"slices"
	"strconv"
	"strings"
	"testing"

	"heddle/api"
)

// wrong is one fault that is put into mixed.
type wrong struct {
	what  string
	field string // two faults of one field cannot be there at a time
	layer int
	e     api.Errno
	do    func(m *api.Model)
}

// at is a fault of a layer. Where an earlier one has taken the layer away, nothing is done.
func at(layer int, e api.Errno, field, what string, do func(p *api.Pack)) wrong {
	return wrong{what, string(rune('0'+layer)) + field, layer, e, func(m *api.Model) {
		if layer < len(m.Packs) {
			do(&m.Packs[layer])
		}
	}}
}

func whole(e api.Errno, field, what string, do func(m *api.Model)) wrong {
	return wrong{what, field, -1, e, do}
}

// first does something with a list's first element, if there is one.
func first[T any](list []T, do func(v *T)) {
	if len(list) > 0 {
		do(&list[0])
	}
}

// wrongs are faults of all rules that a change of mixed can bring, in the order in which they are told.
func wrongs() []wrong {
	list := []wrong{
		whole(api.ErrName, "name", "no name", func(m *api.Model) { m.Name = "" }),
		whole(api.ErrName, "name", "a blank in the name", func(m *api.Model) { m.Name = "a b" }),
		whole(api.ErrName, "name", "a name of 33 bytes", func(m *api.Model) { m.Name = strings.Repeat("q", 33) }),
		whole(api.ErrShape, "in", "no height", func(m *api.Model) { m.In.H = 0 }),
		whole(api.ErrShape, "in", "a width of 4097", func(m *api.Model) { m.In.W = 4097 }),
		whole(api.ErrShape, "in", "channels below 0", func(m *api.Model) { m.In.C = -2 }),
		whole(api.ErrBig, "in", "a big input", func(m *api.Model) { m.In = of(4096, 4096, 2) }),
		whole(api.ErrLayers, "layers", "no layers", func(m *api.Model) { m.Packs = nil }),
		whole(api.ErrLayers, "layers", "65 layers", func(m *api.Model) { m.Packs = slices.Concat(m.Packs, make([]api.Pack, 60)) }),
	}
	list = append(list, convWrongs(0)...)
	list = append(list, poolWrongs(1)...)
	list = append(list, denseWrongs(2)...)
	list = append(list, threshWrongs(2)...)
	list = append(list, convWrongs(3)...)
	list = append(list, denseWrongs(4)...)
	return append(list, lastWrongs(4)...)
}

func convWrongs(i int) []wrong {
	list := []wrong{
		at(i, api.ErrLayers, "kind", "a Kind 0", func(p *api.Pack) { p.Kind = 0 }),
		at(i, api.ErrLayers, "kind", "a Kind 4", func(p *api.Pack) { p.Kind = 4 }),
		at(i, api.ErrShape, "k", "K 0", func(p *api.Pack) { p.K = 0 }),
		at(i, api.ErrShape, "k", "K 4097", func(p *api.Pack) { p.K = 4097 }),
		at(i, api.ErrWindow, "win", "no rows", func(p *api.Pack) { p.Win.R = 0 }),
		at(i, api.ErrWindow, "win", "16 columns", func(p *api.Pack) { p.Win.S = 16 }),
		at(i, api.ErrWindow, "win", "no step", func(p *api.Pack) { p.Win.StepY = 0 }),
		at(i, api.ErrWindow, "win", "a step of 16", func(p *api.Pack) { p.Win.StepX = 16 }),
		at(i, api.ErrWindow, "win", "a border of 15", func(p *api.Pack) { p.Win.Top = 15 }),
		at(i, api.ErrWindow, "win", "a border below 0", func(p *api.Pack) { p.Win.Right = -1 }),
		at(i, api.ErrWindow, "border", "Border 2", func(p *api.Pack) { p.Border = 2 }),
		at(i, api.ErrWindow, "border", "Border -2", func(p *api.Pack) { p.Border = -2 }),
		at(i, api.ErrFit, "win", "a window that does not fit", func(p *api.Pack) { p.Win.R = 15 }),
	}
	return slices.Concat(list, rowWrongs(i), threshWrongs(i))
}

func poolWrongs(i int) []wrong {
	return []wrong{
		at(i, api.ErrLayers, "kind", "a Kind below 0", func(p *api.Pack) { p.Kind = -3 }),
		at(i, api.ErrLayers, "k", "K 1", func(p *api.Pack) { p.K = 1 }),
		at(i, api.ErrLayers, "weight", "Weight 1", func(p *api.Pack) { p.Weight = 1 }),
		at(i, api.ErrLayers, "border", "Border 1", func(p *api.Pack) { p.Border = 1 }),
		at(i, api.ErrLayers, "rows", "a row", func(p *api.Pack) { p.Rows = []api.Row{{}} }),
		at(i, api.ErrLayers, "threshes", "a threshold", func(p *api.Pack) { p.Threshes = ge(0) }),
		at(i, api.ErrLayers, "biases", "a bias", func(p *api.Pack) { p.Biases = []int64{0} }),
		at(i, api.ErrWindow, "win", "no rows", func(p *api.Pack) { p.Win.R = 0 }),
		at(i, api.ErrWindow, "win", "a step of 16", func(p *api.Pack) { p.Win.StepX = 16 }),
		at(i, api.ErrWindow, "win", "a border on top", func(p *api.Pack) { p.Win.Top = 1 }),
		at(i, api.ErrWindow, "win", "a border to the left", func(p *api.Pack) { p.Win.Left = 1 }),
		at(i, api.ErrWindow, "win", "a border below", func(p *api.Pack) { p.Win.Bottom = 14 }),
		at(i, api.ErrWindow, "win", "a border to the right", func(p *api.Pack) { p.Win.Right = 1 }),
		at(i, api.ErrFit, "win", "a window that does not fit", func(p *api.Pack) { p.Win.S = 15 }),
	}
}

func denseWrongs(i int) []wrong {
	list := []wrong{
		at(i, api.ErrLayers, "kind", "a great Kind", func(p *api.Pack) { p.Kind = math.MaxInt }),
		at(i, api.ErrShape, "k", "K -1", func(p *api.Pack) { p.K = -1 }),
		at(i, api.ErrShape, "k", "K 4097", func(p *api.Pack) { p.K = 4097 }),
		at(i, api.ErrLayers, "win", "a window", func(p *api.Pack) { p.Win = point() }),
		at(i, api.ErrLayers, "win", "a step", func(p *api.Pack) { p.Win.StepX = 1 }),
		at(i, api.ErrLayers, "border", "Border 1", func(p *api.Pack) { p.Border = 1 }),
	}
	return slices.Concat(list, rowWrongs(i))
}

func rowWrongs(i int) []wrong {
	return []wrong{
		at(i, api.ErrWeight, "weight", "Weight 0", func(p *api.Pack) { p.Weight = 0 }),
		at(i, api.ErrWeight, "weight", "Weight 3", func(p *api.Pack) { p.Weight = 3 }),
		at(i, api.ErrWeight, "weight", "Weight -1", func(p *api.Pack) { p.Weight = -1 }),
		at(i, api.ErrWeight, "rows", "no rows", func(p *api.Pack) { p.Rows = nil }),
		at(i, api.ErrWeight, "rows", "a row less", func(p *api.Pack) { p.Rows = p.Rows[1:] }),
		at(i, api.ErrWeight, "rows", "a row more", func(p *api.Pack) { p.Rows = append(p.Rows, p.Rows[0]) }),
		at(i, api.ErrWeight, "rows", "a row of nothing", func(p *api.Pack) { p.Rows[0] = api.Row{} }),
		at(i, api.ErrWeight, "rows", "a last row of nothing", func(p *api.Pack) { p.Rows[len(p.Rows)-1] = api.Row{} }),
		at(i, api.ErrWeight, "rows", "Sign without Some", func(p *api.Pack) { p.Rows[0].Sign.Words[0], p.Rows[0].Some.Words[0] = 1, 0 }),
	}
}

func threshWrongs(i int) []wrong {
	return []wrong{
		at(i, api.ErrThresh, "threshes", "no thresholds", func(p *api.Pack) { p.Threshes = nil }),
		at(i, api.ErrThresh, "threshes", "a threshold less", func(p *api.Pack) { p.Threshes = p.Threshes[1:] }),
		at(i, api.ErrThresh, "threshes", "a threshold more", func(p *api.Pack) { p.Threshes = append(p.Threshes, p.Threshes[0]) }),
		at(i, api.ErrThresh, "threshes", "a threshold of no Mode", func(p *api.Pack) { p.Threshes[1] = api.Thresh{} }),
		at(i, api.ErrThresh, "biases", "a bias", func(p *api.Pack) { p.Biases = []int64{0} }),
		at(i, api.ErrThresh, "biases", "biases", func(p *api.Pack) { p.Biases = make([]int64, p.K&15) }),
	}
}

func lastWrongs(i int) []wrong {
	return []wrong{
		at(i, api.ErrBias, "biases", "no biases", func(p *api.Pack) { p.Biases = nil }),
		at(i, api.ErrBias, "biases", "a bias less", func(p *api.Pack) { p.Biases = p.Biases[1:] }),
		at(i, api.ErrBias, "biases", "a bias more", func(p *api.Pack) { p.Biases = append(p.Biases, 0) }),
		at(i, api.ErrBias, "threshes", "a threshold", func(p *api.Pack) { p.Threshes = ge(0) }),
		at(i, api.ErrBias, "threshes", "thresholds", func(p *api.Pack) { p.Threshes = ge(0, 0) }),
		at(i, api.ErrReach, "biases", "a bias that reaches too far", func(p *api.Pack) { first(p.Biases, func(b *int64) { *b = 2147483636 }) }),
		at(i, api.ErrReach, "biases", "a bias that reaches too far down", func(p *api.Pack) { first(p.Biases, func(b *int64) { *b = -2147483636 }) }),
		at(i, api.ErrReach, "biases", "the least bias", func(p *api.Pack) { first(p.Biases, func(b *int64) { *b = math.MinInt64 }) }),
		at(i, api.ErrReach, "biases", "the greatest bias", func(p *api.Pack) { first(p.Biases, func(b *int64) { *b = math.MaxInt64 }) }),
	}
}

// TestFaults: each fault alone, told with its layer; its bytes, as far as the form can tell it, are no model's, or another one's.
func TestFaults(t *testing.T) {
	checks(t, "mixed", mixed(), 0, api.OK)
	for _, w := range wrongs() {
		m := mixed()
		w.do(&m)
		checks(t, w.what, m, w.layer, w.e)
		if w.field != "in" { // of other inputs the rows behind would be long
			against(t, laid(m))
		}
	}
}

// TestTwoFaults: of two faults the one that stands first in the document is told.
func TestTwoFaults(t *testing.T) {
	list := wrongs()
	for i, a := range list {
		for _, b := range list[i+1:] {
			if a.field == b.field {
				continue
			}
			m := mixed()
			a.do(&m)
			b.do(&m)
			checks(t, a.what+" and "+b.what, m, a.layer, a.e)
		}
	}
}

// TestFaultsInOrder: pairs within one rule, and of faults that need a model of their own.
func TestFaultsInOrder(t *testing.T) {
	wide := win(15, 15, 1, 1, 14, 14, 0, 0)
	for _, c := range []struct {
		what  string
		layer int
		e     api.Errno
		m     api.Model
	}{
		{"a side ahead of the elements", -1, api.ErrShape, model(of(4097, 4096, 4096), last(1, 1))},
		{"the elements ahead of the layers", -1, api.ErrBig, model(of(4096, 4096, 2))},
		{"an LPool first", 0, api.ErrLayers, model(of(2, 2, 1), pool(point()), last(1, 4))},
		{"an LPool first and last", 0, api.ErrLayers, model(of(2, 2, 1), pool(point()))},
		{"an LPool last", 1, api.ErrLayers, model(of(2, 2, 1), dense(3, 4), pool(point()))},
		{"an LConv last", 0, api.ErrLayers, model(of(2, 2, 1), conv(1, point(), 1))},
		{"an LConv last, with K 0", 0, api.ErrLayers, model(of(2, 2, 1), api.Pack{Kind: api.LConv})},
		{"an LPool first, with K 1 and a border", 0, api.ErrLayers, model(of(2, 2, 1), api.Pack{Kind: api.LPool, K: 1, Win: win(1, 1, 1, 1, 1, 0, 0, 0)}, last(1, 1))},
		{"a Border without borders", 0, api.ErrWindow, model(of(2, 2, 1), api.Pack{Kind: api.LConv, K: 1, Border: 1, Win: win(3, 3, 1, 1, 0, 0, 0, 0)}, last(1, 1))},
		{"a border that would make an LPool fit", 1, api.ErrWindow, model(of(2, 2, 1), conv(1, point(), 1), pool(win(3, 2, 1, 1, 1, 0, 0, 0)), last(1, 1))},
		{"a border of an LPool ahead of its fit", 1, api.ErrWindow, model(of(2, 2, 1), conv(1, point(), 1), pool(win(9, 2, 1, 1, 1, 0, 0, 0)), last(1, 1))},
		{"the fit ahead of the rows", 0, api.ErrFit, model(of(4096, 1, 1), api.Pack{Kind: api.LConv, K: 4096, Win: win(1, 2, 1, 1, 1, 0, 0, 0)}, last(1, 1))},
		{"too many rows", 0, api.ErrShape, model(of(4096, 1, 1), conv(1, win(1, 1, 1, 1, 0, 0, 1, 0), 1), last(1, 1))},
		{"too many columns", 0, api.ErrShape, model(of(1, 4096, 1), conv(1, win(1, 1, 1, 1, 0, 1, 0, 0), 1), last(1, 1))},
		{"the rows ahead of the elements", 0, api.ErrShape, model(of(4096, 1, 1), api.Pack{Kind: api.LConv, K: 4096, Win: win(1, 1, 1, 1, 1, 0, 0, 0)}, last(1, 1))},
		{"too many elements", 0, api.ErrBig, model(of(4096, 64, 1), conv(65, point(), 1), last(1, 1))},
		{"the elements ahead of Weight", 0, api.ErrBig, model(of(4096, 64, 1), api.Pack{Kind: api.LConv, K: 65, Win: point()}, last(1, 1))},
		{"Weight ahead of too many weights", 0, api.ErrWeight, model(of(4096, 4096, 1), api.Pack{Kind: api.LDense, K: 2})},
		{"Weight ahead of too many weights, of an LConv", 0, api.ErrWeight, model(of(1, 1, 4096), api.Pack{Kind: api.LConv, K: 4096, Win: wide, Weight: 3}, last(1, 1))},
		{"too many weights ahead of no rows", 0, api.ErrBig, model(of(4096, 4096, 1), api.Pack{Kind: api.LDense, K: 2, Weight: 1})},
		{"too many weights ahead of no rows, of an LConv", 0, api.ErrBig, model(of(1, 1, 4096), api.Pack{Kind: api.LConv, K: 4096, Win: wide, Weight: 2}, last(1, 1))},
		{"the most weights that could be told", 0, api.ErrBig, model(of(4096, 4096, 1), api.Pack{Kind: api.LDense, K: 4096, Weight: 2})},
		{"biases ahead of the fan-in", 0, api.ErrBias, model(of(4096, 4096, 1), api.Pack{Kind: api.LDense, K: 1, Weight: 2, Rows: rowsOf(1, 1, 1<<24, 0, 1)})},
		{"the fan-in", 0, api.ErrReach, model(of(4096, 4096, 1), last(1, 1<<24))},
		{"the fan-in of a layer with thresholds", 0, api.ErrReach, model(of(4096, 4096, 1), dense(1, 1<<24), last(1, 1))},
		{"the fan-in ahead of the next layer's Kind", 0, api.ErrReach, model(of(4096, 4096, 1), dense(1, 1<<24), api.Pack{})},
		{"a threshold ahead of the fan-in", 0, api.ErrThresh, model(of(4096, 4096, 1), api.Pack{Kind: api.LDense, K: 1, Weight: 1, Rows: rowsOf(1, 1, 1<<24, 0, 1), Threshes: make([]api.Thresh, 1)}, last(1, 1))},
		{"two layers of nothing", 0, api.ErrLayers, model(of(1, 1, 1), make([]api.Pack, 2)...)},
		{"64 layers of nothing", 0, api.ErrLayers, model(of(1, 1, 1), make([]api.Pack, 64)...)},
		{"65 layers of nothing", -1, api.ErrLayers, model(of(1, 1, 1), make([]api.Pack, 65)...)},
		{"a hundred thousand layers of nothing", -1, api.ErrLayers, model(of(1, 1, 1), make([]api.Pack, 100000)...)},
		{"nothing", -1, api.ErrName, api.Model{}},
	} {
		checks(t, c.what, c.m, c.layer, c.e)
	}
}

// TestReach: the greatest fan-in of a first layer, and of a later one, with biases at their ends and one beyond.
func TestReach(t *testing.T) {
	for _, c := range []struct {
		m    api.Model
		left int64
	}{
		{model(of(1, 1, 3), last(1, 3)), most - 3*128},
		{model(of(1, 1, 3), dense(5, 3), last(1, 5)), most - 5},
		{model(of(4095, 4096, 1), last(1, 4095*4096)), most - 4095*4096*128},
		{model(of(4096, 4095, 1), conv(1, point(), 1), last(1, 4095*4096)), most - 4095*4096},
	} {
		p := &c.m.Packs[len(c.m.Packs)-1]
		for bias, e := range map[int64]api.Errno{c.left: api.OK, -c.left: api.OK, c.left + 1: api.ErrReach, -c.left - 1: api.ErrReach, math.MaxInt64: api.ErrReach, math.MinInt64: api.ErrReach} {
			p.Biases[0] = bias
			layer := 0
			if e != api.OK {
				layer = len(c.m.Packs) - 1
			}
			checks(t, "a bias", c.m, layer, e)
		}
	}
}

// TestNames: every byte at the front, in the midst and at the end; every length.
func TestNames(t *testing.T) {
	const letters = "abcdefghijklmnopqrstuvwxyzABCDEFGHIJKLMNOPQRSTUVWXYZ0123456789_-"
	named := func(name string, good bool) {
		t.Helper()
		m := tiny()
		m.Name = name
		if good {
			alike(t, "named "+strconv.Quote(name), m)
			return
		}
		checks(t, "named "+strconv.Quote(name), m, -1, api.ErrName)
		if len(name) < 256 {
			refused(t, "named "+strconv.Quote(name), laid(m), api.ErrPacked)
		}
	}
	for b := range 256 {
		s := string([]byte{byte(b)})
		for _, name := range []string{s, "x" + s, s + "x", "ab" + s + "cd", strings.Repeat("x", 31) + s} {
			named(name, strings.Contains(letters, s))
		}
	}
	for size := range 300 {
		named(strings.Repeat("q", size), between(size, 1, 32))
	}
	named(strings.Repeat("q", 1<<20), false)
	named("é", false)
	named(strings.Repeat("é", 16), false)
}

// TestShapes: inputs whose sides are at their ends and beyond.
func TestShapes(t *testing.T) {
	for _, in := range []api.Shape{of(1, 1, 1), of(4096, 1, 1), of(1, 4096, 1), of(1, 1, 4096), of(257, 255, 3), of(3, 256, 255)} {
		good := model(in, last(1, in.H*in.W*in.C))
		alike(t, "an input", good)
		for _, bad := range []int{0, -1, 4097, 65536 + 1, 1 << 32, math.MinInt, math.MaxInt} {
			for k := range 3 {
				m := good
				*[]*int{&m.In.H, &m.In.W, &m.In.C}[k] = bad
				checks(t, "a side", m, -1, api.ErrShape)
			}
		}
	}
	alike(t, "the greatest input", model(of(4096, 4096, 1), conv(1, win(15, 15, 15, 15, 0, 0, 0, 0), 1), last(1, 273*273)))
	for _, in := range []api.Shape{of(4096, 4096, 2), of(4096, 4096, 4096), of(257, 256, 256)} {
		checks(t, "a big input", model(in, last(1, 1)), -1, api.ErrBig)
	}
}

// ends of int, numbers that a file would show as good ones, and such as would wrap in a product.
func odd() []int {
	return []int{math.MinInt, math.MinInt + 1, math.MaxInt, math.MaxInt - 1, 1 << 62, -1 << 62, 1 << 32, -1 << 32, 1<<32 + 1, 1 << 31, 65536 + 1, 65536 + 2, 256 + 1, 256 + 2, 255 - 256, -1}
}

// TestNumbersAtTheEndsOfInt: each number of each layer at numbers that it may not be.
func TestNumbersAtTheEndsOfInt(t *testing.T) {
	for layer := range mixed().Packs {
		numbers := func(p *api.Pack) []*int {
			w := &p.Win
			return []*int{&p.Kind, &p.Weight, &p.K, &w.R, &w.S, &w.StepY, &w.StepX, &w.Top, &w.Left, &w.Bottom, &w.Right, &p.Border}
		}
		for i := range numbers(&api.Pack{}) {
			for _, v := range odd() {
				m := mixed()
				*numbers(&m.Packs[layer])[i] = v
				at, e := faultOf(m)
				checks(t, "a number at an end", m, at, e)
				// Border is the only one that may be -1.
				if good := e == api.OK; good != (i == 11 && v == -1 && (layer == 0 || layer == 3)) {
					t.Errorf("the test's own numbers: layer %d, number %d, %d: %d", layer, i, v, e)
				}
			}
		}
	}
	for _, v := range odd() {
		m := mixed()
		for i := range m.Packs {
			m.Packs[i].Win = win(v, v, v, v, v, v, v, v)
			m.Packs[i].K, m.Packs[i].Weight, m.Packs[i].Border = v, v, v
		}
		at, e := faultOf(m)
		checks(t, "all numbers at an end", m, at, e)
	}
}

// TestThresholds: each that fold.Check lets pass and refuses, at each place of a list.
func TestThresholds(t *testing.T) {
	modes := []int{-1, 0, 1, 2, 3, 4, 5, 255, 256 + 1, 1<<32 + 1, math.MinInt, math.MaxInt}
	turns := []int64{math.MinInt64, -1 << 32, -most - 1, -most, 1 - most, -1, 0, 1, most - 1, most, most + 1, 1 << 32, math.MaxInt64}
	for _, mode := range modes {
		for _, turn := range turns {
			thresh := api.Thresh{Mode: mode, T: turn}
			for layer, k := range map[int]int{0: 1, 2: 2, 3: 0} {
				m := mixed()
				m.Packs[layer].Threshes[k] = thresh
				if threshMayBe(thresh) {
					alike(t, "a threshold", m)
				} else {
					checks(t, "a threshold that may not be", m, layer, api.ErrThresh)
				}
			}
		}
	}
}

// TestHowManyLayers: one layer to 64, of each kind where it may stand; none, and more.
func TestHowManyLayers(t *testing.T) {
	for count := range 64 {
		m := model(of(2, 1, 1))
		for i := range count {
			m.Packs = append(m.Packs, []api.Pack{dense(2, 2), conv(2, point(), 2), pool(point())}[i%3])
		}
		m.Packs = append(m.Packs, last(2, 2))
		alike(t, "layers", m)
	}
	for _, count := range []int{0, 65, 255, 256, 257, 320, 1000} {
		m := model(of(1, 1, 2), slices.Repeat([]api.Pack{dense(2, 2)}, max(count-1, 0))...)
		if count > 0 {
			m.Packs = append(m.Packs, last(2, 2))
		}
		checks(t, "another number of layers", m, -1, api.ErrLayers)
		if count < 341 { // three chunks each: more are too many for a container
			refused(t, "another number of layers", laid(m), api.ErrPacked)
		}
	}
}

// TestWeightsInAll: as many as may be in all, of one layer and of several, and one more.
func TestWeightsInAll(t *testing.T) {
	square := model(of(1, 1, 512), slices.Repeat([]api.Pack{dense(512, 512)}, 63)...)
	square.Packs = append(square.Packs, last(512, 512))
	// What stands behind the first layer has 4096 weights less one, and one each.
	behind := func(first api.Pack, ends int) api.Model {
		return model(of(1, 1, 4096), first, dense(1, 4095), last(ends, 1))
	}
	for what, m := range map[string]api.Model{
		"64 layers":                      square,
		"a convolution and dense layers": behind(conv(4095, point(), 4096), 1),
	} {
		alike(t, what, m)
	}
	checks(t, "one layer", model(of(1, 1, 4096), last(4096, 4096)), 0, api.OK)
	checks(t, "dense layers", behind(dense(4095, 4096), 1), 0, api.OK)
	checks(t, "one more", behind(dense(4095, 4096), 2), 2, api.ErrBig)
	checks(t, "one more, behind a convolution", behind(conv(4095, point(), 4096), 2), 2, api.ErrBig)
	checks(t, "none left behind a convolution", model(of(1, 1, 4096), conv(4096, point(), 4096), last(1, 4096)), 1, api.ErrBig)
	checks(t, "one more of one layer", model(of(1, 1, 257), dense(1, 257), dense(4096, 1), dense(4095, 4096), last(1, 4095)), 2, api.ErrBig)
}
