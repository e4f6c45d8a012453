package batch_test

import (
	"math"
	"slices"
	"testing"

	"heddle/api"
	"heddle/batch"
	"heddle/chunk"
	"heddle/engine"
	"heddle/plain"
	"heddle/source"
)

// TestExamples: the chapter's.
func TestExamples(t *testing.T) {
	b := bytesOf(t, tiny())
	zero, x := []byte{0, 0, 0}, []byte{3, 4, 255}
	nine, five := api.Result{Logits: []int64{9, 1}}, api.Result{Logits: []int64{5, -5}}
	none := api.Result{}
	for _, c := range []struct {
		ask     call
		workers int
		inputs  [][]byte
		want    answer
	}{
		{batch.Run, 2, [][]byte{x, zero}, answer{[]api.Result{nine, five}, []api.Errno{api.OK, api.OK}, api.OK}},
		{batch.Run, 1, nil, answer{}},
		{batch.Run, 8, [][]byte{zero, {1}, zero, {2, 2}}, answer{[]api.Result{five, none, none, none}, []api.Errno{api.OK, api.ErrInput, api.ErrCancel, api.ErrCancel}, api.OK}},
		{batch.All, 8, [][]byte{zero, {1}, zero, {2, 2}}, answer{[]api.Result{five, none, five, none}, []api.Errno{api.OK, api.ErrInput, api.OK, api.ErrInput}, api.OK}},
		{batch.Run, 0, nil, answer{err: api.ErrArg}},
		{batch.Run, 65, nil, answer{err: api.ErrArg}},
		{batch.Run, 1, slices.Repeat([][]byte{x}, 257), answer{err: api.ErrLong}},
	} {
		if got := answerOf(c.ask, b, c.workers, c.inputs...); !got.same(c.want) {
			t.Errorf("P23.1 to P23.3, an example: %d workers, %v: %s, not %s", c.workers, c.inputs, show(got), show(c.want))
		}
	}
	if got := answerOf(batch.Run, nil, 0); !got.same(answer{err: api.ErrShort}) {
		t.Errorf("P23.1, an example: no bytes, 0 workers: %s", show(got))
	}
}

// TestRefused: Load's error ahead of ErrArg ahead of ErrLong.
func TestRefused(t *testing.T) {
	b := bytesOf(t, deep(4))
	src, _ := source.Encode(deep(4))
	turned := slices.Clone(b)
	turned[len(turned)/2] ^= 16
	empty, _ := chunk.Write(0x706c6468)
	few, many := slices.Repeat([][]byte{make([]byte, 32)}, 2), slices.Repeat([][]byte{make([]byte, 32)}, mostInputs+1)
	workers := []int{0, mostWorkers + 1, -1, -64, 1 << 40, math.MinInt, math.MaxInt}
	for e, bad := range map[api.Errno][]byte{api.ErrShort: nil, api.ErrSum: turned, api.ErrTag: src, api.ErrPacked: empty, api.ErrLong: make([]byte, 1<<24+1)} {
		if _, told := engine.Load(bad); told != e {
			t.Fatalf("the test's own bytes: Load = %d, not %d", told, e)
		}
		for _, w := range append(workers, 1, 64) {
			refused(t, "no model", e, bad, w, few...)
			refused(t, "no model", e, bad, w, many...)
			refused(t, "no model", e, bad, w)
		}
	}
	for _, w := range workers {
		refused(t, "workers", api.ErrArg, b, w)
		refused(t, "workers", api.ErrArg, b, w, few...)
		refused(t, "workers", api.ErrArg, b, w, []byte{1})
		refused(t, "workers and inputs", api.ErrArg, b, w, many...)
	}
	for _, w := range []int{1, 2, 63, 64} {
		refused(t, "inputs", api.ErrLong, b, w, many...)
		refused(t, "inputs", api.ErrLong, b, w, make([][]byte, 257)...)
		refused(t, "inputs", api.ErrLong, b, w, make([][]byte, 1<<16)...)
	}
}

// TestAtTheBounds: 1 and 64 workers and 256 inputs are answered, and no inputs.
func TestAtTheBounds(t *testing.T) {
	d := dice(1)
	for _, n := range []api.Net{tiny(), deep(5), plainest(4)} {
		b := bytesOf(t, n)
		size := n.In.H * n.In.W * n.In.C
		var inputs [][]byte
		for range mostInputs {
			inputs = append(inputs, d.input(size))
		}
		for _, w := range []int{1, 2, 63, 64} {
			for _, count := range []int{0, 1, 2, 63, 64, 65, 255, 256} {
				alike(t, n.Name, b, w, inputs[:count]...)
			}
			alike(t, n.Name, b, w, [][]byte{}...)
			alike(t, n.Name, b, w, nil, nil)
			alike(t, n.Name, b, w, make([][]byte, 256)...)
		}
	}
}

// TestAnswersAreTheNetworks: each input's answer is its own and the network's, as plain tells it.
func TestAnswersAreTheNetworks(t *testing.T) {
	d := dice(2)
	for _, n := range []api.Net{tiny(), deep(5), plainest(6)} {
		b := bytesOf(t, n)
		size := n.In.H * n.In.W * n.In.C
		var inputs [][]byte
		for i := range 40 {
			inputs = append(inputs, d.input(size))
			if i%7 == 3 {
				inputs[i] = inputs[i-1] // the same bytes twice
			}
		}
		for _, c := range both() {
			got := answerOf(c.ask, b, 5, inputs...)
			if got.err != api.OK || len(got.results) != 40 || len(got.errs) != 40 {
				t.Fatalf("P23.2: %s of 40 inputs = %s", c.name, show(got))
			}
			for i, x := range inputs {
				want, e := plain.Run(n, x)
				if got.errs[i] != e || !sameResult(got.results[i], want) {
					t.Errorf("P23.2: %s, %s, input %d = %s, %d, not %s, %d", n.Name, c.name, i, show(got.results[i]), got.errs[i], show(want), e)
				}
			}
		}
	}
}

// wrong are inputs of other sizes than the right one.
func wrong(size int) [][]byte {
	return [][]byte{nil, {}, {1}, make([]byte, size-1), make([]byte, size+1), make([]byte, 2*size), make([]byte, 1<<16)}
}

// TestFaults: one input that is refused, and two, at each place.
func TestFaults(t *testing.T) {
	d := dice(3)
	n := deep(4)
	b, size := bytesOf(t, n), 32
	const count = 7
	for i := range count {
		for k := range count {
			for at, bad := range wrong(size) {
				inputs := make([][]byte, count)
				for j := range inputs {
					inputs[j] = d.input(size)
				}
				inputs[i], inputs[k] = bad, wrong(size)[(at+2)%7]
				for _, w := range []int{1, 2, 8} {
					alike(t, "faults", b, w, inputs...)
				}
			}
		}
	}
}

// TestFirstFault tells by hand what Run answers where the first, a middle and the last input is refused, and what All answers.
func TestFirstFault(t *testing.T) {
	b := bytesOf(t, tiny())
	inputs := func(bad ...int) (list [][]byte) {
		for i := range 5 {
			list = append(list, []byte{byte(i), 0, 0})
		}
		for _, k := range bad {
			list[k] = []byte{1, 2}
		}
		return list
	}
	for _, c := range []struct {
		bad      []int
		run, all []api.Errno
	}{
		{nil, []api.Errno{0, 0, 0, 0, 0}, []api.Errno{0, 0, 0, 0, 0}},
		{[]int{0}, []api.Errno{60, 230, 230, 230, 230}, []api.Errno{60, 0, 0, 0, 0}},
		{[]int{2}, []api.Errno{0, 0, 60, 230, 230}, []api.Errno{0, 0, 60, 0, 0}},
		{[]int{4}, []api.Errno{0, 0, 0, 0, 60}, []api.Errno{0, 0, 0, 0, 60}},
		{[]int{1, 3}, []api.Errno{0, 60, 230, 230, 230}, []api.Errno{0, 60, 0, 60, 0}},
		{[]int{3, 4}, []api.Errno{0, 0, 0, 60, 230}, []api.Errno{0, 0, 0, 60, 60}},
		{[]int{0, 1, 2, 3, 4}, []api.Errno{60, 230, 230, 230, 230}, []api.Errno{60, 60, 60, 60, 60}},
	} {
		for w := 1; w <= 6; w++ {
			for _, asked := range both() {
				errs := c.all
				if asked.name == "Run" {
					errs = c.run
				}
				want := answer{errs: errs, results: make([]api.Result, 5)}
				for i, e := range errs {
					if e == api.OK {
						want.results[i] = api.Result{Logits: []int64{int64(i) + 5, int64(i) - 5}}
					}
				}
				if got := answerOf(asked.ask, b, w, inputs(c.bad...)...); !got.same(want) {
					t.Errorf("P23.2, P23.3: %s with %d workers, %v refused = %s, not %s", asked.name, w, c.bad, show(got), show(want))
				}
			}
		}
	}
}
