package packed_test

import (
	"bytes"
	"reflect"
	"slices"
	"sync"
	"testing"

	"heddle/api"
	"heddle/net"
	"heddle/packed"
)

// room is a list in memory of its own, with three marked elements in the room behind it.
func room[T any](list []T, marked T) []T {
	long := append(slices.Clone(list), marked, marked, marked)
	return slices.Clip(long)[:len(list)]
}

// roomy is a model in memory of its own, whose lists all have marked room behind them.
func roomy(m api.Model) api.Model {
	m = own(m)
	for i, p := range m.Packs {
		for k, r := range p.Rows {
			r.Sign.Words, r.Some.Words = room(r.Sign.Words, full), room(r.Some.Words, full)
			p.Rows[k] = r
		}
		p.Rows, p.Threshes, p.Biases = room(p.Rows, row(85, nil, nil)), room(p.Threshes, api.Thresh{Mode: 85, T: 85}), room(p.Biases, 85)
		m.Packs[i] = p
	}
	m.Packs = room(m.Packs, api.Pack{Kind: 85})
	return m
}

// all is a list with the room behind it.
func all[T any](list []T) []T { return list[:cap(list)] }

// over writes v over a list and the room behind it.
func over[T any](list []T, v T) {
	for i := range all(list) {
		all(list)[i] = v
	}
}

// picture is all that a model holds, its room too.
func picture(m api.Model) []any {
	seen := []any{m.Name, m.In, len(m.Packs)}
	for _, p := range all(m.Packs) {
		seen = append(seen, p.Kind, p.Weight, p.K, p.Win, p.Border, len(p.Rows), len(p.Threshes), len(p.Biases))
		seen = append(seen, slices.Clone(all(p.Threshes)), slices.Clone(all(p.Biases)))
		for _, r := range all(p.Rows) {
			seen = append(seen, r.Sign.Len, r.Some.Len, len(r.Sign.Words), len(r.Some.Words), slices.Clone(all(r.Sign.Words)), slices.Clone(all(r.Some.Words)))
		}
	}
	return seen
}

// lists are a model's lists, one by one, each to be written over; a list of lists behind those that are in it.
func lists(m api.Model) []func() {
	var write []func()
	for _, p := range m.Packs {
		for _, r := range p.Rows {
			write = append(write, func() { over(r.Sign.Words, 99) }, func() { over(r.Some.Words, 98) })
		}
		write = append(write, func() { over(p.Threshes, api.Thresh{Mode: 97}) }, func() { over(p.Biases, 96) }, func() { over(p.Rows, api.Row{}) })
	}
	return append(write, func() { over(m.Packs, api.Pack{}) })
}

// loud writes over all that a model holds, its room too.
func loud(m api.Model) {
	for _, write := range lists(m) {
		write()
	}
}

// held is what each list of a model holds, in the order of lists.
func held(m api.Model) []any {
	var seen []any
	for _, p := range m.Packs {
		for _, r := range p.Rows {
			seen = append(seen, slices.Clone(r.Sign.Words), slices.Clone(r.Some.Words))
		}
		seen = append(seen, slices.Clone(p.Threshes), slices.Clone(p.Biases), len(p.Rows))
	}
	return append(seen, len(m.Packs))
}

// shallow is a model whose lists of lists are copied, the lists in them not.
func shallow(m api.Model) api.Model {
	m.Packs = slices.Clone(m.Packs)
	for i := range m.Packs {
		m.Packs[i].Rows = slices.Clone(m.Packs[i].Rows)
	}
	return m
}

// models are good ones, and such as are refused.
func models() map[string]api.Model {
	bad := mixed()
	bad.Packs[4].Biases = append(bad.Packs[4].Biases, 1)
	kind := mixed()
	kind.Packs[2].Kind = 9
	weight := mixed()
	weight.Packs[3].Rows[1].Some.Words[0] = 15
	d := dice(5)
	return map[string]api.Model{
		"tiny": tiny(), "edge": edge(), "mixed": mixed(), "any": d.model(), "any other": d.model(),
		"layers alike":  model(of(1, 1, 65), dense(65, 65), dense(65, 65), conv(65, point(), 65), conv(65, point(), 65), last(65, 65)),
		"a bias more":   bad,
		"a Kind":        kind,
		"a bit of Some": weight,
		"nothing":       {}, "no layers": model(of(1, 1, 1)), "too many layers": model(of(1, 1, 2), slices.Repeat([]api.Pack{dense(2, 2)}, 99)...),
	}
}

// files are good ones, and bytes that are refused.
func files() map[string][]byte {
	list := map[string][]byte{"no bytes": {}, "no chunks": container(magic), "another magic": container(7, chunksOf(tiny())...)}
	for what, m := range models() {
		b := laid(m)
		list[what] = b
		list[what+", cut off"] = b[:len(b)-1]
		list[what+", turned"] = other(b, len(b)-1, ^b[len(b)-1])
		cs := chunksOf(m)
		list[what+", its last chunk longer"] = container(magic, append(cs[:len(cs)-1], api.Chunk{Tag: 5, Body: append(cs[len(cs)-1].Body, 0)})...)
	}
	return list
}

// answers is what all calls but Decode tell of a model.
type answers struct {
	layer int
	e     api.Errno
	b     []byte
	n     api.Net
}

func ask(t *testing.T, m api.Model) answers {
	t.Helper()
	layer, e := packed.Check(m)
	b, eEncode := packed.Encode(m)
	n, eMeaning := packed.Meaning(m)
	if eEncode != e || eMeaning != e {
		t.Errorf("P19.3, P19.5: Check, Encode, Meaning: %d, %d, %d", e, eEncode, eMeaning)
	}
	return answers{layer, e, b, n}
}

// copied is answers in memory of their own.
func (a answers) copied() answers {
	a.b, a.n = slices.Clone(a.b), net.Clone(a.n)
	return a
}

// TestModelsStay: the calls change nothing that is handed in, nor the room behind it, and keep nothing of it.
func TestModelsStay(t *testing.T) {
	for what, given := range models() {
		m := roomy(given)
		was := picture(m)
		a := ask(t, m)
		if !reflect.DeepEqual(picture(m), was) {
			t.Errorf("P19.6: %s: what was handed in is changed", what)
		}
		want := a.copied()
		loud(m)
		if !reflect.DeepEqual(a, want) {
			t.Errorf("P19.6: %s: an answer changed with what was handed in", what)
		}
		for _, again := range []api.Model{roomy(given), given} {
			if got := ask(t, again); !reflect.DeepEqual(got, want) {
				t.Errorf("P19.6: %s: first %v, then %v", what, want, got)
			}
		}
	}
}

// TestBytesStay: Decode changes no bytes, nor the room behind them, and keeps nothing of them, the name neither.
func TestBytesStay(t *testing.T) {
	for what, given := range files() {
		b := room(given, 85)
		was := slices.Clone(all(b))
		m, e := packed.Decode(b)
		if !bytes.Equal(all(b), was) {
			t.Errorf("P19.6: %s: Decode changed what was handed in", what)
		}
		over(b, 'z')
		want, wantE := packed.Decode(given)
		if !reflect.DeepEqual(m, want) || e != wantE {
			t.Errorf("P19.6: %s: the model changed with the bytes: %d, %d", what, e, wantE)
		}
	}
}

// TestModelsAreTheirOwn writes answers of Decode full, with the room behind them, list by list, and looks at all else.
func TestModelsAreTheirOwn(t *testing.T) {
	for what, b := range files() {
		other, e := packed.Decode(b)
		was := held(other)
		count := len(lists(other))
		for i := range count {
			if count > 200 && i%37 > 2 && i < count-20 { // of many lists some
				continue
			}
			given := slices.Clone(b)
			m, _ := packed.Decode(given)
			mine := shallow(m)
			lists(m)[i]()
			now := held(mine)
			for j := range was {
				if j != i && !reflect.DeepEqual(now[j], was[j]) {
					t.Errorf("P19.6: %s: the lists %d and %d of a model share memory", what, i, j)
				}
			}
			if !bytes.Equal(given, b) || !reflect.DeepEqual(held(other), was) {
				t.Errorf("P19.6: %s: a model shares memory with the bytes or with another one", what)
			}
			if again, eToo := packed.Decode(given); !same(again, other) || eToo != e {
				t.Errorf("P19.6: %s: once an answer is written over: %d, and before %d", what, eToo, e)
			}
		}
	}
}

// netLists are a network's lists, one by one, each to be written over.
func netLists(n api.Net) []func() {
	var write []func()
	for _, l := range n.Layers {
		write = append(write, func() { over(l.Weights, 99) }, func() { over(l.Norms, api.Norm{}) }, func() { over(l.Biases, 99) })
	}
	return append(write, func() { over(n.Layers, api.Layer{}) })
}

// netHeld is what each list of a network holds, in the order of netLists.
func netHeld(n api.Net) []any {
	var seen []any
	for _, l := range n.Layers {
		seen = append(seen, slices.Clone(l.Weights), slices.Clone(l.Norms), slices.Clone(l.Biases))
	}
	return append(seen, len(n.Layers))
}

// TestMeaningsAreTheirOwn writes answers of Meaning full, list by list, and looks at all else.
func TestMeaningsAreTheirOwn(t *testing.T) {
	for what, m := range models() {
		m = roomy(m)
		pictured := picture(m)
		other, _ := packed.Meaning(m)
		was := netHeld(other)
		for i := range netLists(other) {
			n, _ := packed.Meaning(m)
			layers := slices.Clone(n.Layers) // as the layers' list is written over too
			netLists(n)[i]()
			n.Layers = layers
			now := netHeld(n)
			for j := range was {
				if j != i && !reflect.DeepEqual(now[j], was[j]) {
					t.Errorf("P19.6: %s: the lists %d and %d of a network share memory", what, i, j)
				}
			}
			if !reflect.DeepEqual(picture(m), pictured) || !reflect.DeepEqual(netHeld(other), was) {
				t.Errorf("P19.6: %s: a network shares memory with the model or with another one", what)
			}
		}
	}
}

// TestFilesAreTheirOwn writes bytes full that Encode answered, with the room behind them.
func TestFilesAreTheirOwn(t *testing.T) {
	for what, m := range models() {
		m = roomy(m)
		was := picture(m)
		first, _ := packed.Encode(m)
		second, e := packed.Encode(m)
		keep := slices.Clone(second)
		over(first, 0xEE)
		third, eToo := packed.Encode(m)
		if !bytes.Equal(second, keep) || !bytes.Equal(third, keep) || e != eToo || !reflect.DeepEqual(picture(m), was) {
			t.Errorf("P19.6: %s: an answer that is written over changes another, or what was given", what)
		}
	}
}

// TestNilAndEmpty: lists without elements are the same as nil.
func TestNilAndEmpty(t *testing.T) {
	for _, m := range []api.Model{tiny(), edge(), mixed()} {
		alike(t, "with empty lists", settled(m))
	}
	checks(t, "an empty list of layers", api.Model{Name: "a", In: of(1, 1, 1), Packs: []api.Pack{}}, -1, api.ErrLayers)
	refused(t, "an empty list", []byte{}, api.ErrShort)
}

// TestAgain: the same calls again, from several goroutines, answer the same.
func TestAgain(t *testing.T) {
	var group sync.WaitGroup
	for what, m := range models() {
		first := ask(t, m)
		for range 4 {
			group.Go(func() {
				for range 20 {
					if again := ask(t, m); !reflect.DeepEqual(again, first) {
						t.Errorf("P19.6: %s: first %v, then %v", what, first, again)
					}
				}
			})
		}
	}
	for what, b := range files() {
		first, e := packed.Decode(b)
		for range 4 {
			group.Go(func() {
				for range 20 {
					if again, eToo := packed.Decode(b); !reflect.DeepEqual(again, first) || eToo != e {
						t.Errorf("P19.6: %s: first %d, then %d", what, e, eToo)
					}
				}
			})
		}
	}
	group.Wait()
}
