package plain_test

import (
	"reflect"
	"slices"
	"sync"
	"testing"

	"heddle/api"
	"heddle/net"
	"heddle/plain"
)

// room is a list with marked elements behind its end.
func room[T any](list []T, marked T) []T {
	long := append(slices.Clone(list), marked, marked, marked)
	return slices.Clip(long)[:len(list)]
}

// roomy is a network in memory of its own, whose lists all have marked room behind them.
func roomy(n api.Net) api.Net {
	n = net.Clone(n)
	for i, l := range n.Layers {
		l.Weights, l.Norms, l.Biases = room(l.Weights, 85), room(l.Norms, from(85)), room(l.Biases, 85)
		n.Layers[i] = l
	}
	n.Layers = room(n.Layers, api.Layer{Kind: 85, Weights: []int8{85}})
	return n
}

// all is a list with the room behind it.
func all[T any](list []T) []T { return list[:cap(list)] }

// picture is all that a network and an input hold, their room too.
func picture(n api.Net, x []byte) []any {
	seen := []any{n.Name, n.In, len(n.Layers), len(x), slices.Clone(all(x))}
	for _, l := range all(n.Layers) {
		seen = append(seen, l.Kind, l.Weight, l.K, l.Win, l.Border, len(l.Weights), len(l.Norms), len(l.Biases))
		seen = append(seen, slices.Clone(all(l.Weights)), slices.Clone(all(l.Norms)), slices.Clone(all(l.Biases)))
	}
	return seen
}

// fill writes v over a list and the room behind it.
func fill[T any](list []T, v T) {
	for i := range all(list) {
		all(list)[i] = v
	}
}

// cases are networks with inputs: good ones, and such as are refused.
func cases() map[string]func() (api.Net, []byte) {
	with := func(n api.Net, x []byte) func() (api.Net, []byte) {
		return func() (api.Net, []byte) { return roomy(n), room(x, 85) }
	}
	bad := mixed()
	bad.Layers[5].Biases = append(bad.Layers[5].Biases, 1)
	return map[string]func() (api.Net, []byte){
		"first":                   with(first(), input(3, 4)),
		"second":                  with(second(), input(1, 2, 3, 4)),
		"mixed":                   with(mixed(), pattern(40)),
		"one layer":               with(network(of(1, 1, 2), last([]int8{1, -1}, 4)), input(7, 8)),
		"an LConv and an LDense":  with(network(of(2, 2, 1), signs(), last(ones(8), 1, 2)), input(0, 1, -1, 2)),
		"pools of one place":      with(network(of(2, 2, 1), signs(), pool(point()), pool(point()), last(ones(4), 1)), input(0, 1, -1, 2)),
		"an input of other size":  with(mixed(), pattern(39)),
		"a network with a fault":  with(bad, pattern(40)),
		"no network and no input": with(api.Net{}, nil),
	}
}

// TestArgumentsStay: no call changes what is handed in, nor the room behind it.
func TestArgumentsStay(t *testing.T) {
	for what, make := range cases() {
		n, x := make()
		was := picture(n, x)
		plain.Run(n, x)
		if !reflect.DeepEqual(picture(n, x), was) {
			t.Errorf("P6.5: %s: Run changed what was handed in", what)
		}
		plain.Trace(n, x)
		if !reflect.DeepEqual(picture(n, x), was) {
			t.Errorf("P6.5: %s: Trace changed what was handed in", what)
		}
	}
}

// TestNothingIsKept: what was answered stays, when all that was handed in is written over.
func TestNothingIsKept(t *testing.T) {
	for what, make := range cases() {
		n, x := make()
		r, e := plain.Run(n, x)
		steps, eToo := plain.Trace(n, x)
		for _, l := range n.Layers {
			fill(l.Weights, 99)
			fill(l.Norms, api.Norm{})
			fill(l.Biases, 99)
		}
		fill(n.Layers, api.Layer{})
		fill(x, 99)
		n, x = make()
		again, e2 := plain.Run(n, x)
		stepsAgain, e2Too := plain.Trace(n, x)
		if e != e2 || eToo != e2Too || r.Arg != again.Arg || !slices.Equal(r.Logits, again.Logits) || !sameSteps(steps, stepsAgain) {
			t.Errorf("P6.5: %s: %v, %v, and once more %v, %v", what, r, steps, again, stepsAgain)
		}
	}
}

// copied is a trace in memory of its own.
func copied(steps []api.Step) []api.Step {
	steps = slices.Clone(steps)
	for i := range steps {
		steps[i].Values = slices.Clone(steps[i].Values)
	}
	return steps
}

// TestAnswersAreTheirOwn writes answers full, with the room behind them, list by list, and looks at all else.
func TestAnswersAreTheirOwn(t *testing.T) {
	for what, make := range cases() {
		n, x := make()
		was := picture(n, x)
		one, _ := plain.Run(n, x)
		two, _ := plain.Run(n, x)
		steps, _ := plain.Trace(n, x)
		want, right := slices.Clone(one.Logits), copied(steps)
		fill(one.Logits, 77)
		if !slices.Equal(two.Logits, want) || !sameSteps(steps, right) {
			t.Errorf("P6.5: %s: two answers share memory", what)
		}
		for i := range steps {
			mine, _ := plain.Trace(n, x)
			fill(mine[i].Values, 77)
			for j := range mine {
				if j != i && !slices.Equal(mine[j].Values, right[j].Values) {
					t.Errorf("P6.5: %s: the lists %d and %d of a trace share memory", what, i, j)
				}
			}
			fill(mine, api.Step{})
			if !sameSteps(steps, right) {
				t.Errorf("P6.5: %s: two traces share memory", what)
			}
		}
		if again, _ := plain.Run(n, x); !slices.Equal(again.Logits, want) || again.Arg != two.Arg {
			t.Errorf("P6.5: %s: once answers are written over, Run = %v", what, again)
		}
		if again, _ := plain.Trace(n, x); !sameSteps(again, right) {
			t.Errorf("P6.5: %s: once answers are written over, Trace = %v", what, again)
		}
		if !reflect.DeepEqual(picture(n, x), was) {
			t.Errorf("P6.5: %s: an answer lies in what was handed in", what)
		}
	}
}

// TestSharedLists: a network whose layers share their lists, and an input that lies in the same memory as another.
func TestSharedLists(t *testing.T) {
	weights, norms := []int8{1, -1, 0, 1, 1, 1, -1, -1, 1}, froms(0, 1, -1)
	n := network(of(1, 1, 3), dense(weights, norms...), dense(weights, norms...), last(weights, 3, -1, 0))
	bytes := input(1, -2, 3, -4, 5)
	for i := range 3 {
		answers(t, "shared lists", n, bytes[i:i+3], meant(n, bytes[i:i+3]))
	}
}

// TestNilAndEmpty: lists without elements are the same as nil.
func TestNilAndEmpty(t *testing.T) {
	n := mixed()
	empty := net.Clone(n)
	for i, l := range empty.Layers {
		if l.Weights == nil {
			empty.Layers[i].Weights = []int8{}
		}
		if l.Norms == nil {
			empty.Layers[i].Norms = []api.Norm{}
		}
		if l.Biases == nil {
			empty.Layers[i].Biases = []int64{}
		}
	}
	answers(t, "empty lists", empty, pattern(40), meant(n, pattern(40)))
	refused(t, "an empty input", n, []byte{}, api.ErrInput)
	refused(t, "no layers", api.Net{Name: "n", In: of(1, 1, 1), Layers: []api.Layer{}}, []byte{1}, api.ErrLayers)
}

// TestManyAtATime: calls know nothing of each other, nor of those that came ahead.
func TestManyAtATime(t *testing.T) {
	var group sync.WaitGroup
	for what, make := range cases() {
		n, x := make()
		r, e := plain.Run(n, x)
		steps, _ := plain.Trace(n, x)
		for range 4 {
			group.Go(func() {
				for range 20 {
					again, eToo := plain.Run(n, x)
					stepsAgain, _ := plain.Trace(n, x)
					if e != eToo || !slices.Equal(r.Logits, again.Logits) || !sameSteps(steps, stepsAgain) {
						t.Errorf("P6.5: %s: %v, and once more %v", what, r, again)
					}
				}
			})
		}
	}
	group.Wait()
}
