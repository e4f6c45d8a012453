package source_test

import (
	"bytes"
	"reflect"
	"slices"
	"sync"
	"testing"

	"heddle/api"
	"heddle/net"
	"heddle/source"
)

// room is a list in memory of its own, with three marked elements in the room behind it.
func room[T any](list []T, marked T) []T {
	long := append(slices.Clone(list), marked, marked, marked)
	return slices.Clip(long)[:len(list)]
}

// roomy is a network in memory of its own, whose lists all have marked room behind them.
func roomy(n api.Net) api.Net {
	n = net.Clone(n)
	for i, l := range n.Layers {
		l.Weights, l.Norms, l.Biases = room(l.Weights, 85), room(l.Norms, norm(fr(85, 1), fr(85, 2), fr(85, 3), fr(85, 4))), room(l.Biases, 85)
		n.Layers[i] = l
	}
	n.Layers = room(n.Layers, api.Layer{Kind: 85, Weights: []int8{85}})
	return n
}

// all is a list with the room behind it.
func all[T any](list []T) []T { return list[:cap(list)] }

// picture is all that a network holds, its room too.
func picture(n api.Net) []any {
	seen := []any{n.Name, n.In, len(n.Layers)}
	for _, l := range all(n.Layers) {
		seen = append(seen, l.Kind, l.Weight, l.K, l.Win, l.Border, len(l.Weights), len(l.Norms), len(l.Biases))
		seen = append(seen, slices.Clone(all(l.Weights)), slices.Clone(all(l.Norms)), slices.Clone(all(l.Biases)))
	}
	return seen
}

// over writes v over a list and the room behind it.
func over[T any](list []T, v T) {
	for i := range all(list) {
		all(list)[i] = v
	}
}

// loud writes over all that a network holds, its room too.
func loud(n api.Net) {
	for _, l := range n.Layers {
		over(l.Weights, 99)
		over(l.Norms, api.Norm{})
		over(l.Biases, 99)
	}
	over(n.Layers, api.Layer{})
}

// networks are good ones, and such as are refused.
func networks() map[string]api.Net {
	return map[string]api.Net{
		"tiny": tiny(), "mixed": mixed(), "many": network(of(1, 1, 20), dense(200, 20), dense(100, 200), last(50, 100)),
		"a fault": changed(func(n *api.Net) { n.Layers[4].Biases = append(n.Layers[4].Biases, 1) }),
		"a Kind":  changed(func(n *api.Net) { n.Layers[2].Kind = 9 }),
		"nothing": {}, "no layers": {Name: "a", In: of(1, 1, 1)}, "too many layers": network(of(1, 1, 2), slices.Repeat([]api.Layer{dense(2, 2)}, 99)...),
	}
}

// sources are good ones, and bytes that are refused.
func sources() map[string][]byte {
	all := map[string][]byte{"no bytes": {}, "no chunks": container(magic), "another magic": container(7, chunksOf(tiny())...), "too many bytes": make([]byte, api.MaxBytes+1)}
	for what, n := range networks() {
		b := laid(n)
		all[what] = b
		all[what+", cut off"] = b[:len(b)-1]
		all[what+", turned"] = other(b, len(b)-1, ^b[len(b)-1])
		cs := chunksOf(n)
		all[what+", its last chunk longer"] = container(magic, append(cs[:len(cs)-1], api.Chunk{Tag: 3, Body: append(cs[len(cs)-1].Body, 0)})...)
	}
	return all
}

// TestNetworksStay: Encode changes nothing that is handed in, nor the room behind it, and keeps nothing of it.
func TestNetworksStay(t *testing.T) {
	for what, given := range networks() {
		n := roomy(given)
		was := picture(n)
		b, e := source.Encode(n)
		if !reflect.DeepEqual(picture(n), was) {
			t.Errorf("P9.5: %s: Encode changed what was handed in", what)
		}
		copied := slices.Clone(b)
		loud(n)
		if !bytes.Equal(b, copied) {
			t.Errorf("P9.5: %s: the bytes changed with what was handed in", what)
		}
		if again, eToo := source.Encode(roomy(given)); !bytes.Equal(again, copied) || eToo != e {
			t.Errorf("P9.5: %s: %d, and once more %d", what, e, eToo)
		}
		if again, eToo := source.Encode(given); !bytes.Equal(again, copied) || eToo != e {
			t.Errorf("P9.5: %s: %d, and without room %d", what, e, eToo)
		}
	}
}

// TestBytesStay: Decode changes no bytes, nor the room behind them, and keeps nothing of them, the name neither.
func TestBytesStay(t *testing.T) {
	for what, given := range sources() {
		b := room(given, 85)
		was := slices.Clone(all(b))
		n, e := source.Decode(b)
		if !bytes.Equal(all(b), was) {
			t.Errorf("P9.5: %s: Decode changed what was handed in", what)
		}
		over(b, 'z')
		want, wantE := source.Decode(given)
		if !net.Equal(n, want) || e != wantE {
			t.Errorf("P9.5: %s: the network changed with the bytes: %d, %d", what, e, wantE)
		}
	}
}

// lists are a network's lists, one by one, each to be written over.
func lists(n api.Net) []func() {
	var write []func()
	for _, l := range n.Layers {
		write = append(write, func() { over(l.Weights, 99) }, func() { over(l.Norms, api.Norm{}) }, func() { over(l.Biases, 99) })
	}
	return append(write, func() { over(n.Layers, api.Layer{}) })
}

// held is what each list of a network holds.
func held(n api.Net) []any {
	var seen []any
	for _, l := range n.Layers {
		seen = append(seen, slices.Clone(l.Weights), slices.Clone(l.Norms), slices.Clone(l.Biases))
	}
	return append(seen, len(n.Layers))
}

// TestNetworksAreTheirOwn writes answers full, with the room behind them, list by list, and looks at all else.
func TestNetworksAreTheirOwn(t *testing.T) {
	for what, b := range sources() {
		other, e := source.Decode(b)
		was := held(other)
		for i := range lists(other) {
			given := slices.Clone(b)
			n, _ := source.Decode(given)
			own := slices.Clone(n.Layers) // as the layers' list is written over too
			lists(n)[i]()
			n.Layers = own
			now := held(n)
			for j := range was {
				if j != i && !reflect.DeepEqual(now[j], was[j]) {
					t.Errorf("P9.5: %s: the lists %d and %d of a network share memory", what, i, j)
				}
			}
			if !bytes.Equal(given, b) || !reflect.DeepEqual(held(other), was) {
				t.Errorf("P9.5: %s: a network shares memory with the bytes or with another one", what)
			}
			loud(n)
			if again, eToo := source.Decode(given); !net.Equal(again, other) || eToo != e {
				t.Errorf("P9.5: %s: once an answer is written over: %d, and before %d", what, eToo, e)
			}
		}
	}
}

// TestSourcesAreTheirOwn writes bytes full that were answered, with the room behind them.
func TestSourcesAreTheirOwn(t *testing.T) {
	for what, n := range networks() {
		n = roomy(n)
		was := picture(n)
		first, _ := source.Encode(n)
		second, e := source.Encode(n)
		keep := slices.Clone(second)
		over(first, 0xEE)
		third, eToo := source.Encode(n)
		if !bytes.Equal(second, keep) || !bytes.Equal(third, keep) || e != eToo || !reflect.DeepEqual(picture(n), was) {
			t.Errorf("P9.5: %s: an answer that is written over changes another, or what was given", what)
		}
	}
}

// TestNilAndEmpty: lists without elements are the same as nil.
func TestNilAndEmpty(t *testing.T) {
	for _, n := range []api.Net{tiny(), mixed()} {
		for i, l := range n.Layers {
			l.Weights, l.Norms, l.Biases = append([]int8{}, l.Weights...), append([]api.Norm{}, l.Norms...), append([]int64{}, l.Biases...)
			n.Layers[i] = l
		}
		alike(t, "with empty lists", n)
	}
	unwritten(t, "an empty list of layers", api.Net{Name: "a", In: of(1, 1, 1), Layers: []api.Layer{}}, api.ErrLayers)
	refused(t, "an empty list", []byte{}, api.ErrShort)
}

// TestSharedLists: a network whose layers share their lists.
func TestSharedLists(t *testing.T) {
	weights, norms := []int8{1, -1, 0, 1, 1, 1, -1, -1, 1}, []api.Norm{step(), step(), step()}
	l := api.Layer{Kind: api.LDense, Weight: api.Ternary, K: 3, Weights: weights, Norms: norms}
	end := api.Layer{Kind: api.LDense, Weight: api.Ternary, K: 3, Weights: weights, Biases: []int64{1, 2, 3}}
	alike(t, "shared lists", api.Net{Name: "shared", In: of(1, 1, 3), Layers: []api.Layer{l, l, end}})
}

// TestManyAtATime: calls know nothing of each other, nor of those that came ahead.
func TestManyAtATime(t *testing.T) {
	var group sync.WaitGroup
	for what, b := range sources() {
		n, e := source.Decode(b)
		made, eMade := source.Encode(n)
		for range 4 {
			group.Go(func() {
				for range 50 {
					m, eToo := source.Decode(b)
					again, eAgain := source.Encode(n)
					if eToo != e || !net.Equal(m, n) || !bytes.Equal(again, made) || eAgain != eMade {
						t.Errorf("P9.5: %s: %d, and once more %d", what, e, eToo)
					}
				}
			})
		}
	}
	group.Wait()
}
