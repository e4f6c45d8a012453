package batch_test

import (
	"slices"
	"testing"

	"heddle/api"
)

// room is a list in memory of its own, with three marked elements in the room behind it.
func room[T any](list []T, marked T) []T {
	long := append(slices.Clone(list), marked, marked, marked)
	return slices.Clip(long)[:len(list)]
}

// all is a list with the room behind it.
func all[T any](list []T) []T { return list[:cap(list)] }

// over writes v over a list and the room behind it.
func over[T any](list []T, v T) {
	for i := range all(list) {
		all(list)[i] = v
	}
}

// spoil writes over all that an answer holds, its room too.
func (a answer) spoil() {
	for _, r := range a.results {
		over(r.Logits, 99)
	}
	over(a.results, api.Result{Logits: []int64{98}, Arg: 97})
	over(a.errs, 96)
}

// lists are inputs for deep(4): some are refused, none is, all are.
func lists() [][][]byte {
	d := dice(9)
	some := someInputs(&d, 9, 32, false)
	some[5], some[7] = nil, make([]byte, 33)
	return [][][]byte{some, someInputs(&d, 9, 32, false), someInputs(&d, 3, 31, false), nil}
}

// TestNothingHandedInChanges: neither bytes, nor the list of inputs, nor an input, nor the room behind them; and no answer hangs on them any more.
func TestNothingHandedInChanges(t *testing.T) {
	good := bytesOf(t, deep(4))
	broken := slices.Clone(good)
	broken[30] ^= 1
	for _, file := range [][]byte{good, broken} {
		for _, given := range lists() {
			for _, c := range both() {
				for _, workers := range []int{1, 3, 64, 65} {
					want := answerOf(c.ask, file, workers, given...)
					b := room(file, 85)
					inputs := make([][]byte, 0, len(given)+3)
					for _, x := range given {
						inputs = append(inputs, room(x, 84))
					}
					inputs = room(inputs, []byte{83})
					bWas := slices.Clone(all(b))
					var were [][]byte
					for _, x := range all(inputs) {
						were = append(were, slices.Clone(all(x)))
					}
					got := answerOf(c.ask, b, workers, inputs...)
					if !got.same(want) || !slices.Equal(all(b), bWas) {
						t.Errorf("P23.5: %s = %s, not %s, or the model's bytes changed", c.name, show(got), show(want))
					}
					for i, x := range all(inputs) {
						if !slices.Equal(all(x), were[i]) {
							t.Errorf("P23.5: %s changed an input: %v, before %v", c.name, all(x), were[i])
						}
					}
					over(b, 77)
					for _, x := range all(inputs) {
						over(x, 76)
					}
					over(inputs, []byte{75})
					if !got.same(want) {
						t.Errorf("P23.5: what %s answered changed with what was handed in: %s, not %s", c.name, show(got), show(want))
					}
				}
			}
		}
	}
}

// TestAnswersAreTheirOwn: an answer that is written over, with its room, changes neither another list of it nor another answer.
func TestAnswersAreTheirOwn(t *testing.T) {
	b := bytesOf(t, deep(4))
	for _, inputs := range lists() {
		// The same input more than once: its answers are apart too.
		inputs = append(slices.Clone(inputs), inputs...)
		for _, c := range both() {
			for _, workers := range []int{1, 2, 64} {
				a, other := answerOf(c.ask, b, workers, inputs...), answerOf(c.ask, b, workers, inputs...)
				keep := other.own()
				for i, r := range a.results {
					over(r.Logits, int64(1000+i))
				}
				for i, r := range a.results {
					_ = append(r.Logits, 5)
					for _, logit := range r.Logits {
						if logit != int64(1000+i) {
							t.Errorf("P23.5: two answers of one call share memory: %s", show(a))
						}
					}
				}
				a.spoil()
				_, _ = append(a.results, api.Result{Arg: 7}), append(a.errs, 7)
				if !other.same(keep) {
					t.Errorf("P23.5: two calls of %s share memory: %s, not %s", c.name, show(other), show(keep))
				}
				if again := answerOf(c.ask, b, workers, inputs...); !again.same(keep) {
					t.Errorf("P0.5: the same call of %s again = %s, not %s", c.name, show(again), show(keep))
				}
			}
		}
	}
}

// TestNothingIsKept: what was asked before, with another model, other inputs or a fault, changes no answer.
func TestNothingIsKept(t *testing.T) {
	d := dice(10)
	models := [][]byte{bytesOf(t, tiny()), bytesOf(t, deep(4)), bytesOf(t, plainest(4)), nil}
	sizes := []int{3, 32, 32, 0}
	for range 200 {
		at := d.roll(0, 3)
		inputs := someInputs(&d, d.roll(0, 20), 32, true)
		if at == 0 {
			inputs = someInputs(&d, d.roll(0, 20), sizes[at], true)
		}
		if at == 3 {
			refused(t, "between", api.ErrShort, nil, 4, inputs...)
			continue
		}
		alike(t, "behind other calls", models[at], d.roll(1, 64), inputs...)
	}
}

// TestNilAndEmpty: a list without elements is the same as nil, as a list of inputs and as an input.
func TestNilAndEmpty(t *testing.T) {
	b := bytesOf(t, deep(4))
	x := make([]byte, 32)
	for _, c := range both() {
		for _, pair := range [][2]answer{
			{answerOf(c.ask, nil, 3, x), answerOf(c.ask, []byte{}, 3, x)},
			{answerOf(c.ask, b, 3, nil...), answerOf(c.ask, b, 3, [][]byte{}...)},
			{answerOf(c.ask, b, 3, x, nil, x), answerOf(c.ask, b, 3, x, []byte{}, x)},
		} {
			if !pair[0].same(pair[1]) {
				t.Errorf("P0.4: %s of nil = %s, of an empty list %s", c.name, show(pair[0]), show(pair[1]))
			}
		}
	}
}
