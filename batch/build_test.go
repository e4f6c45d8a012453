package batch_test

import (
	"fmt"
	"slices"
	"testing"

	"heddle/api"
	"heddle/batch"
	"heddle/convert"
	"heddle/engine"
	"heddle/source"
)

// Numbers of the document by themselves.
const (
	mostWorkers = 64
	mostInputs  = 256
)

// call is Run or All.
type call func(b []byte, workers int, inputs ...[]byte) ([]api.Result, []api.Errno, api.Errno)

// named is a call with its name.
type named struct {
	name string
	ask  call
}

func both() []named { return []named{{"Run", batch.Run}, {"All", batch.All}} }

// answer is all that a call answers.
type answer struct {
	results []api.Result
	errs    []api.Errno
	err     api.Errno
}

func answerOf(c call, b []byte, workers int, inputs ...[]byte) (a answer) {
	a.results, a.errs, a.err = c(b, workers, inputs...)
	return a
}

func sameResult(a, b api.Result) bool { return a.Arg == b.Arg && slices.Equal(a.Logits, b.Logits) }

func (a answer) same(b answer) bool {
	return a.err == b.err && slices.Equal(a.errs, b.errs) && slices.EqualFunc(a.results, b.results, sameResult)
}

// own is an answer in memory of its own.
func (a answer) own() answer {
	a.errs = slices.Clone(a.errs)
	a.results = slices.Clone(a.results)
	for i := range a.results {
		a.results[i].Logits = slices.Clone(a.results[i].Logits)
	}
	return a
}

// show is the front of what a thing holds.
func show(v any) string {
	s := fmt.Sprintf("%+v", v)
	return s[:min(len(s), 1500)]
}

// dice are numbers in a fixed row.
type dice uint64

// roll is a number from lo to hi.
func (d *dice) roll(lo, hi int) int {
	*d = *d*6364136223846793005 + 1442695040888963407
	return lo + int(uint64(*d)>>33)%(hi-lo+1)
}

// weights are n weights, each 1 or -1.
func (d *dice) weights(n int) []int8 {
	list := make([]int8, n)
	for i := range list {
		list[i] = int8(2*d.roll(0, 1) - 1)
	}
	return list
}

// input is n bytes.
func (d *dice) input(n int) []byte {
	x := make([]byte, n)
	for i := range x {
		x[i] = byte(d.roll(0, 255))
	}
	return x
}

// norms are k norms that make sums from t on plus.
func norms(k int, t int64) []api.Norm {
	one := api.Frac{Num: 1, Den: 1}
	return slices.Repeat([]api.Norm{{G: one, B: api.Frac{Den: 1}, M: api.Frac{Num: t, Den: 1}, S: one}}, k)
}

// tiny is the network of doc/22: inputs of three bytes.
func tiny() api.Net {
	return api.Net{Name: "tiny", In: api.Shape{H: 1, W: 1, C: 3}, Layers: []api.Layer{
		{Kind: api.LDense, Weight: api.Ternary, K: 2, Weights: []int8{1, 0, -1, 1, 1, 1}, Biases: []int64{5, -5}},
	}}
}

// deep has layers of all kinds, and logits that are not the same for most inputs; its inputs have h * h * 2 bytes.
func deep(h int) api.Net {
	d := dice(23)
	step := min(h, 15)
	pooled := (h-2)/step + 1
	around := api.Window{R: 3, S: 3, StepY: 1, StepX: 1, Top: 1, Left: 1, Bottom: 1, Right: 1}
	return api.Net{Name: "deep", In: api.Shape{H: h, W: h, C: 2}, Layers: []api.Layer{
		{Kind: api.LConv, Weight: api.Binary, K: 5, Win: around, Border: -1, Weights: d.weights(5 * 18), Norms: norms(5, 3)},
		{Kind: api.LConv, Weight: api.Binary, K: 8, Win: around, Weights: d.weights(8 * 45), Norms: norms(8, 9)},
		{Kind: api.LPool, Win: api.Window{R: 2, S: 2, StepY: step, StepX: step}},
		{Kind: api.LDense, Weight: api.Binary, K: 20, Weights: d.weights(20 * 8 * pooled * pooled), Norms: norms(20, 0)},
		{Kind: api.LDense, Weight: api.Binary, K: 3, Weights: d.weights(3 * 20), Biases: []int64{2, -1, 0}},
	}}
}

// plainest has one layer, so that hardly two inputs have the same logits; its inputs have h * h * 2 bytes.
func plainest(h int) api.Net {
	d := dice(24)
	return api.Net{Name: "plainest", In: api.Shape{H: h, W: h, C: 2}, Layers: []api.Layer{
		{Kind: api.LDense, Weight: api.Binary, K: 3, Weights: d.weights(3 * h * h * 2), Biases: []int64{0, 100, -7}},
	}}
}

// bytesOf is a network's packed model.
func bytesOf(t testing.TB, n api.Net) []byte {
	t.Helper()
	src, e := source.Encode(n)
	if e != api.OK {
		t.Fatalf("the test's own network may not be: %d", e)
	}
	b, e := convert.Convert(src)
	if e != api.OK {
		t.Fatalf("the test's own network: Convert = %d", e)
	}
	return b
}

// wanted is what All answers, reckoned by an engine one input behind the other, or Run, if the first fault cancels the rest.
func wanted(t testing.TB, b []byte, cancels bool, inputs ...[]byte) (a answer) {
	t.Helper()
	g, e := engine.Load(b)
	if e != api.OK {
		t.Fatalf("the test's own model: Load = %d", e)
	}
	fault := false
	for _, x := range inputs {
		r, e := g.Run(x)
		if fault && cancels {
			r, e = api.Result{}, api.ErrCancel
		}
		fault = fault || e != api.OK
		a.results, a.errs = append(a.results, r), append(a.errs, e)
	}
	return a
}

// alike: both calls answer what an engine does.
func alike(t *testing.T, what string, b []byte, workers int, inputs ...[]byte) {
	t.Helper()
	for _, c := range both() {
		want := wanted(t, b, c.name == "Run", inputs...)
		if got := answerOf(c.ask, b, workers, inputs...); !got.same(want) {
			t.Errorf("P23.2, P23.3: %s: %s with %d workers, %d inputs = %s, not %s", what, c.name, workers, len(inputs), show(got), show(want))
		}
	}
}

// refused: both calls answer this error and no lists.
func refused(t *testing.T, what string, want api.Errno, b []byte, workers int, inputs ...[]byte) {
	t.Helper()
	for _, c := range both() {
		if got := answerOf(c.ask, b, workers, inputs...); got.err != want || len(got.results)+len(got.errs) != 0 {
			t.Errorf("P23.1: %s: %s with %d workers, %d inputs = %s, not %d", what, c.name, workers, len(inputs), show(got), want)
		}
	}
}
