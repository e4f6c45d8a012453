package text_test

import (
	"reflect"
	"slices"
	"sync"
	"testing"
	"unsafe"

	"heddle/api"
	"heddle/net"
	"heddle/text"
)

// room is a list with marked elements behind its end.
func room[T any](list []T, marked T) []T {
	long := append(slices.Clone(list), marked, marked, marked)
	return slices.Clip(long)[:len(list)]
}

// roomy is a network in memory of its own, whose lists all have marked room behind them.
func roomy(n api.Net) api.Net {
	n = net.Clone(n)
	for i, l := range n.Layers {
		l.Weights, l.Norms, l.Biases = room(l.Weights, 85), room(l.Norms, norm(fr(85, 1), fr(85, 2), fr(85, 3), fr(85, 4))), room(l.Biases, 85)
		n.Layers[i] = l
	}
	n.Layers = room(n.Layers, api.Layer{Kind: 85, Weights: []int8{85}})
	return n
}

// all is a list with the room behind it.
func all[T any](list []T) []T { return list[:cap(list)] }

// picture is all that a network holds, its room too.
func picture(n api.Net) []any {
	seen := []any{n.Name, n.In, len(n.Layers)}
	for _, l := range all(n.Layers) {
		seen = append(seen, l.Kind, l.Weight, l.K, l.Win, l.Border, len(l.Weights), len(l.Norms), len(l.Biases))
		seen = append(seen, slices.Clone(all(l.Weights)), slices.Clone(all(l.Norms)), slices.Clone(all(l.Biases)))
	}
	return seen
}

// over writes v over a list and the room behind it.
func over[T any](list []T, v T) {
	for i := range all(list) {
		all(list)[i] = v
	}
}

// loud writes over all that a network holds, its room too.
func loud(n api.Net) {
	for _, l := range n.Layers {
		over(l.Weights, 99)
		over(l.Norms, api.Norm{})
		over(l.Biases, 99)
	}
	over(n.Layers, api.Layer{})
}

// networks are good ones, and such as are refused.
func networks() map[string]api.Net {
	faulty := mixed()
	faulty.Layers[3].Biases = append(faulty.Layers[3].Biases, 1)
	return map[string]api.Net{"tiny": tiny(), "edge": edge(), "mixed": mixed(), "a fault": faulty, "nothing": {}, "no layers": {Name: "a", In: of(1, 1, 1)}, "one too long": full()}
}

// texts are good ones, and such as are refused.
func texts() map[string]string {
	return map[string]string{
		"tiny": tinyText, "edge": edgeText, "mixed": mixedText, "nothing": "", "half": mixedText[:len(mixedText)/2],
		"a fault": with(mixedText, 19, "biases 1"), "a wrong line": with(mixedText, 9, "end"), "a wrong word": with(mixedText, 15, "n 1 2 3 x"),
	}
}

// TestArgumentsStay: Print changes nothing that is handed in, nor the room behind it, and keeps nothing of it.
func TestArgumentsStay(t *testing.T) {
	for what, given := range networks() {
		n := roomy(given)
		was := picture(n)
		s, e := text.Print(n)
		if !reflect.DeepEqual(picture(n), was) {
			t.Errorf("P7.4: %s: Print changed what was handed in", what)
		}
		copied := string([]byte(s))
		loud(n)
		if s != copied {
			t.Errorf("P7.4: %s: the text changed with what was handed in", what)
		}
		if again, eToo := text.Print(roomy(given)); again != copied || eToo != e {
			t.Errorf("P7.4: %s: %d, and once more %d", what, e, eToo)
		}
	}
}

// TestTextsStay: Parse changes no text, and keeps nothing of it, its name neither.
func TestTextsStay(t *testing.T) {
	for what, given := range texts() {
		bytes := room([]byte(given), 85)
		s := unsafe.String(unsafe.SliceData(bytes), len(bytes))
		n, at, e := text.Parse(s)
		if string(bytes) != given || string(all(bytes)) != given+"UUU" {
			t.Errorf("P7.4: %s: Parse changed what was handed in", what)
		}
		over(bytes, 'z')
		want, wantAt, wantE := text.Parse(given)
		if !net.Equal(n, want) || at != wantAt || e != wantE {
			t.Errorf("P7.4: %s: the network changed with the text: %+v, %+v", what, n, want)
		}
	}
}

// lists are a network's lists, one by one, each to be written over.
func lists(n api.Net) []func() {
	var write []func()
	for _, l := range n.Layers {
		write = append(write, func() { over(l.Weights, 99) }, func() { over(l.Norms, api.Norm{}) }, func() { over(l.Biases, 99) })
	}
	return append(write, func() { over(n.Layers, api.Layer{}) })
}

// held is what each list of a network holds.
func held(n api.Net) []any {
	var seen []any
	for _, l := range n.Layers {
		seen = append(seen, slices.Clone(l.Weights), slices.Clone(l.Norms), slices.Clone(l.Biases))
	}
	return append(seen, len(n.Layers))
}

// TestAnswersAreTheirOwn writes answers full, with the room behind them, list by list, and looks at all else.
func TestAnswersAreTheirOwn(t *testing.T) {
	for what, s := range texts() {
		other, at, e := text.Parse(s)
		was := held(other)
		for i := range lists(other) {
			n, _, _ := text.Parse(s)
			own := slices.Clone(n.Layers) // as the layers' list is written over too
			lists(n)[i]()
			n.Layers = own
			now := held(n)
			for j := range was {
				if j != i && !reflect.DeepEqual(now[j], was[j]) {
					t.Errorf("P7.4: %s: the lists %d and %d of a network share memory", what, i, j)
				}
			}
			if !reflect.DeepEqual(held(other), was) {
				t.Errorf("P7.4: %s: two networks share memory", what)
			}
			loud(n)
			if again, atToo, eToo := text.Parse(s); !net.Equal(again, other) || atToo != at || eToo != e {
				t.Errorf("P7.4: %s: once an answer is written over: line %d, %d, %+v", what, atToo, eToo, again)
			}
		}
	}
}

// TestNilAndEmpty: lists without elements are the same as nil.
func TestNilAndEmpty(t *testing.T) {
	for s, n := range map[string]api.Net{tinyText: tiny(), edgeText: edge(), mixedText: mixed()} {
		for i, l := range n.Layers {
			l.Weights, l.Norms, l.Biases = append([]int8{}, l.Weights...), append([]api.Norm{}, l.Norms...), append([]int64{}, l.Biases...)
			n.Layers[i] = l
		}
		prints(t, "with empty lists", n, s)
	}
	unprinted(t, "an empty list of layers", api.Net{Name: "a", In: of(1, 1, 1), Layers: []api.Layer{}}, api.ErrLayers)
}

// TestSharedLists: a network whose layers share their lists.
func TestSharedLists(t *testing.T) {
	weights, norms := []int8{1, -1, 0, 1, 1, 1, -1, -1, 1}, []api.Norm{step(), step(), step()}
	l := api.Layer{Kind: api.LDense, Weight: api.Ternary, K: 3, Weights: weights, Norms: norms}
	end := api.Layer{Kind: api.LDense, Weight: api.Ternary, K: 3, Weights: weights, Biases: []int64{1, 2, 3}}
	again(t, api.Net{Name: "shared", In: of(1, 1, 3), Layers: []api.Layer{l, l, end}})
}

// TestManyAtATime: calls know nothing of each other, nor of those that came ahead.
func TestManyAtATime(t *testing.T) {
	var group sync.WaitGroup
	for what, s := range texts() {
		n, at, e := text.Parse(s)
		printed, ePrint := text.Print(n)
		for range 4 {
			group.Go(func() {
				for range 50 {
					m, atToo, eToo := text.Parse(s)
					again, eAgain := text.Print(n)
					if atToo != at || eToo != e || !net.Equal(m, n) || again != printed || eAgain != ePrint {
						t.Errorf("P7.4: %s: line %d, %d, and once more line %d, %d", what, at, e, atToo, eToo)
					}
				}
			})
		}
	}
	group.Wait()
}
