package engine_test

import (
	"reflect"
	"slices"
	"sync"
	"testing"

	"heddle/api"
	"heddle/engine"
)

// room is a list in memory of its own, with three marked elements in the room behind it.
func room[T any](list []T, marked T) []T {
	long := append(slices.Clone(list), marked, marked, marked)
	return slices.Clip(long)[:len(list)]
}

// all is a list with the room behind it.
func all[T any](list []T) []T { return list[:cap(list)] }

// over writes v over a list and the room behind it.
func over[T any](list []T, v T) {
	for i := range all(list) {
		all(list)[i] = v
	}
}

// answer is all that an engine tells of an input.
type answer struct {
	result    api.Result
	steps     []api.Step
	run, look api.Errno
}

func ask(g *engine.Engine, x []byte) (a answer) {
	a.result, a.run = g.Run(x)
	a.steps, a.look = g.Trace(x)
	return a
}

func (a answer) same(b answer) bool {
	return a.run == b.run && a.look == b.look && sameResult(a.result, b.result) && sameSteps(a.steps, b.steps)
}

// own is an answer in memory of its own.
func (a answer) own() answer {
	a.result.Logits = slices.Clone(a.result.Logits)
	a.steps = slices.Clone(a.steps)
	for i, s := range a.steps {
		a.steps[i].Values = slices.Clone(s.Values)
	}
	return a
}

// spoil writes over all that an answer holds, its room too.
func (a answer) spoil() {
	over(a.result.Logits, 99)
	for _, s := range a.steps {
		over(s.Values, 99)
	}
	over(a.steps, api.Step{Shape: of(9, 9, 9)})
}

// some are networks of all sorts, small ones.
func some() []api.Net {
	d := dice(226)
	return d.networks(25)
}

// TestLoadKeepsNothing: Load changes none of its bytes, nor the room behind them, and the engine does not hang on them.
func TestLoadKeepsNothing(t *testing.T) {
	d := dice(1)
	for _, n := range some() {
		b := room(bytesOf(t, n), 85)
		was := slices.Clone(all(b))
		g := ready(t, b)
		if !slices.Equal(all(b), was) {
			t.Errorf("P22.6: Load changed its bytes")
		}
		m, p := g.Model(), g.Plan()
		over(b, 77)
		if !sameModel(g.Model(), m) || !samePlan(g.Plan(), p) {
			t.Errorf("P22.6: the engine changed with the bytes that were handed in")
		}
		for _, x := range d.inputs(n, 1) {
			alike(t, "once its bytes are written over", g, n, x)
		}
	}
	bad := room(bytesOf(t, mixed()), 85)
	bad[20] ^= 1
	was := slices.Clone(all(bad))
	if g, e := engine.Load(bad); g != nil || e == api.OK || !slices.Equal(all(bad), was) {
		t.Errorf("P22.6: Load of bytes that are no model: %v, %d, or they changed", g, e)
	}
}

// TestWithKeepsNothing: With changes no plan, nor the room behind its lists, and no engine hangs on it.
func TestWithKeepsNothing(t *testing.T) {
	d := dice(2)
	for _, n := range some() {
		g := load(t, n)
		own := d.plan(t, g.Model())
		p := api.Plan{Ways: room(own.Ways, 85), Slots: room(own.Slots, api.Slot{At: 85, Size: 85}), Words: own.Words}
		ways, slots := slices.Clone(all(p.Ways)), slices.Clone(all(p.Slots))
		h := with(t, g, p)
		if !slices.Equal(all(p.Ways), ways) || !slices.Equal(all(p.Slots), slots) {
			t.Errorf("P22.6: With changed its plan")
		}
		over(p.Ways, 2)
		over(p.Slots, api.Slot{At: 1, Size: 1})
		if !samePlan(h.Plan(), own) {
			t.Errorf("P22.6: the engine's plan changed with what was handed in: %+v, before %+v", h.Plan(), own)
		}
		for _, x := range d.inputs(n, 1) {
			alike(t, "once its plan is written over", h, n, x)
		}
		// A plan that is refused is left alone too.
		p = api.Plan{Ways: room(own.Ways, 85), Slots: room(own.Slots, api.Slot{At: 85, Size: 85}), Words: -1}
		if h, e := g.With(p); h != nil || e != api.ErrArena || !slices.Equal(all(p.Ways), ways) || !slices.Equal(all(p.Slots), slots) {
			t.Errorf("P22.6: With of a plan that may not be: %v, %d, or it changed", h, e)
		}
	}
}

// TestInputsAreLeftAlone: Run and Trace change no input, nor the room behind it, and keep nothing of it.
func TestInputsAreLeftAlone(t *testing.T) {
	d := dice(3)
	for _, n := range some() {
		g := load(t, n)
		for _, given := range append(d.inputs(n, 2), nil, make([]byte, count(n.In)+1), make([]byte, count(n.In)-1)) {
			x := room(given, 85)
			was := slices.Clone(all(x))
			a := ask(g, x)
			if !slices.Equal(all(x), was) {
				t.Errorf("P22.6: an input changed: %v, before %v", all(x), was)
			}
			keep := a.own()
			over(x, 77)
			if !a.same(keep) {
				t.Errorf("P22.6: an answer changed with its input")
			}
			if again := ask(g, given); !again.same(keep) {
				t.Errorf("P22.6: the same call answers %s, before %s", show(again), show(keep))
			}
		}
	}
}

// TestAnswersAreTheirOwn writes answers full, with the room behind them, and looks at all else.
func TestAnswersAreTheirOwn(t *testing.T) {
	d := dice(4)
	for _, n := range some() {
		g := load(t, n)
		for _, x := range d.inputs(n, 1) {
			a, b := ask(g, x), ask(g, x)
			keep := b.own()
			// No two lists of one answer share memory: each is filled with its own number.
			for i, s := range a.steps {
				over(s.Values, int64(1000+i))
			}
			for i, s := range a.steps {
				if slices.ContainsFunc(all(s.Values), func(v int64) bool { return v != int64(1000+i) }) {
					t.Errorf("P22.6: the values of two steps share memory: %v", a.steps)
				}
			}
			if !sameResult(a.result, keep.result) {
				t.Errorf("P22.6: what Run and what Trace answered share memory")
			}
			a.spoil()
			for i := range a.steps {
				_ = append(a.steps[i].Values, 98)
			}
			_, _ = append(a.result.Logits, 98), append(a.steps, api.Step{})
			if !b.same(keep) {
				t.Errorf("P22.6: two answers share memory: %s, before %s", show(b), show(keep))
			}
			if again := ask(g, x); !again.same(keep) {
				t.Errorf("P22.6: once an answer is written over: %s, before %s", show(again), show(keep))
			}
		}
	}
}

// rowsOf are all lists of words of a model.
func rowsOf(m api.Model) (lists [][]uint64) {
	for _, p := range m.Packs {
		for _, r := range p.Rows {
			lists = append(lists, r.Sign.Words, r.Some.Words)
		}
	}
	return lists
}

// spoilModel writes over all that a model holds, its room too.
func spoilModel(m api.Model) {
	for _, list := range rowsOf(m) {
		over(list, 99)
	}
	for _, p := range m.Packs {
		over(p.Rows, api.Row{})
		over(p.Threshes, api.Thresh{Mode: api.ModeMinus})
		over(p.Biases, 99)
	}
	over(m.Packs, api.Pack{})
}

// TestModelsAreCopies: what Model answers, written over, changes no later answer.
func TestModelsAreCopies(t *testing.T) {
	d := dice(5)
	for _, n := range some() {
		g := load(t, n)
		h := with(t, g, d.plan(t, g.Model()))
		m, other, keep, plan := g.Model(), g.Model(), g.Model(), g.Plan()
		keep = settled(keep)
		lists := rowsOf(m)
		for i, list := range lists {
			over(list, uint64(i))
		}
		for i, list := range lists {
			if slices.ContainsFunc(all(list), func(w uint64) bool { return w != uint64(i) }) {
				t.Errorf("P22.5: two lists of a model share memory")
			}
		}
		spoilModel(m)
		_ = append(m.Packs, api.Pack{Kind: 9})
		spoilModel(h.Model())
		if !sameModel(other, keep) || !sameModel(g.Model(), keep) || !sameModel(h.Model(), keep) || !samePlan(g.Plan(), plan) {
			t.Errorf("P22.5: a model that was written over is the engine's own: %s", show(g.Model()))
		}
		for _, x := range d.inputs(n, 1) {
			alike(t, "once its model is written over", g, n, x)
			alike(t, "once its model is written over, with another plan", h, n, x)
		}
		with(t, g, plan)
	}
}

// TestPlansAreCopies: what Plan answers, written over, changes no later answer.
func TestPlansAreCopies(t *testing.T) {
	d := dice(6)
	for _, n := range some() {
		first := load(t, n)
		for _, g := range []*engine.Engine{first, with(t, first, d.plan(t, first.Model()))} {
			p, other := g.Plan(), g.Plan()
			keep := api.Plan{Ways: slices.Clone(p.Ways), Slots: slices.Clone(p.Slots), Words: p.Words}
			over(p.Ways, 9)
			if !slices.Equal(p.Slots, keep.Slots) {
				t.Errorf("P22.5: the lists of a plan share memory")
			}
			over(p.Slots, api.Slot{At: 9, Size: 9})
			_, _ = append(p.Ways, 8), append(p.Slots, api.Slot{At: 8})
			if !samePlan(other, keep) || !samePlan(g.Plan(), keep) {
				t.Errorf("P22.5: a plan that was written over is the engine's own: %+v", g.Plan())
			}
			for _, x := range d.inputs(n, 1) {
				alike(t, "once its plan is written over", g, n, x)
			}
		}
	}
}

// TestNilAndEmpty: a list without elements is the same as nil.
func TestNilAndEmpty(t *testing.T) {
	a, e := engine.Load(nil)
	b, eToo := engine.Load([]byte{})
	if a != nil || b != nil || e != eToo {
		t.Errorf("P0.4: Load of nil %d, of no bytes %d", e, eToo)
	}
	g := load(t, mixed())
	if a, b := ask(g, nil), ask(g, []byte{}); !a.same(b) || a.run != api.ErrInput {
		t.Errorf("P0.4: of nil %s, of no bytes %s", show(a), show(b))
	}
	c, e := g.With(api.Plan{})
	h, eToo := g.With(api.Plan{Ways: []int{}, Slots: []api.Slot{}})
	if c != nil || h != nil || e != eToo {
		t.Errorf("P0.4: With of nil lists %d, of empty ones %d", e, eToo)
	}
}

// TestNothingIsLeftOfARun: what an engine was asked before changes no answer, whatever lay in its arenas.
func TestNothingIsLeftOfARun(t *testing.T) {
	d := dice(7)
	for _, n := range some() {
		old := load(t, n)
		inputs := d.inputs(n, 4)
		for range 40 {
			x := inputs[d.roll(0, len(inputs)-1)]
			if a, b := ask(old, x), ask(load(t, n), x); !a.same(b) {
				t.Errorf("P0.5: an engine that ran before answers %s, a new one %s", show(a), show(b))
			}
			refuses(t, "between", old, x[:len(x)-1])
		}
	}
}

// TestTwoEngines: two of the same bytes know nothing of each other.
func TestTwoEngines(t *testing.T) {
	n, d := mixed(), dice(8)
	b := bytesOf(t, n)
	g, h := ready(t, b), ready(t, b)
	if g == h {
		t.Errorf("P0.5: Load gives one engine twice")
	}
	spoilModel(g.Model())
	with(t, g, d.plan(t, g.Model()))
	for _, x := range d.inputs(n, 3) {
		ask(g, d.inputs(n, 1)[0])
		alike(t, "the one engine", g, n, x)
		alike(t, "the other one", h, n, x)
	}
}

// TestAtTheSameTime: many goroutines ask one engine, and engines of it with other plans.
func TestAtTheSameTime(t *testing.T) {
	d := dice(9)
	for _, n := range some() {
		g := load(t, n)
		m := settled(g.Model())
		inputs := append(d.inputs(n, 2), make([]byte, count(n.In)+1))
		var want []answer
		for _, x := range inputs {
			want = append(want, ask(g, x))
		}
		plans := []api.Plan{d.plan(t, m), d.plan(t, m), d.plan(t, m)}
		var group sync.WaitGroup
		for worker := range 8 {
			group.Go(func() {
				for i := range 12 {
					at := (worker + i) % len(inputs)
					asked := g
					if i%3 == 2 {
						asked = with(t, g, plans[(worker+i)%3])
					}
					if a := ask(asked, inputs[at]); !a.same(want[at]) {
						t.Errorf("P22.6: beside others: %s, alone %s", show(a), show(want[at]))
					} else {
						a.spoil()
					}
					if worker == 0 && !reflect.DeepEqual(settled(g.Model()), m) {
						t.Errorf("P22.6: beside others the model is another one")
					}
					over(g.Plan().Slots, api.Slot{})
				}
			})
		}
		group.Wait()
	}
}
