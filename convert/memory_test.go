package convert_test

import (
	"bytes"
	"reflect"
	"slices"
	"strings"
	"sync"
	"testing"

	"heddle/api"
	"heddle/convert"
	"heddle/net"
	"heddle/source"
	"heddle/text"
)

// room is a list in memory of its own, with three marked elements in the room behind it.
func room[T any](list []T, marked T) []T {
	long := append(slices.Clone(list), marked, marked, marked)
	return slices.Clip(long)[:len(list)]
}

// roomy is a network in memory of its own, whose lists all have marked room behind them.
func roomy(n api.Net) api.Net {
	n = net.Clone(n)
	for i, l := range n.Layers {
		l.Weights, l.Norms, l.Biases = room(l.Weights, 85), room(l.Norms, whole(85, 85, 85, 85)), room(l.Biases, 85)
		n.Layers[i] = l
	}
	n.Layers = room(n.Layers, api.Layer{Kind: 85})
	return n
}

// all is a list with the room behind it.
func all[T any](list []T) []T { return list[:cap(list)] }

// over writes v over a list and the room behind it.
func over[T any](list []T, v T) {
	for i := range all(list) {
		all(list)[i] = v
	}
}

// picture is all that a network holds, its room too.
func picture(n api.Net) []any {
	seen := []any{n.Name, n.In, len(n.Layers)}
	for _, l := range all(n.Layers) {
		seen = append(seen, l.Kind, l.Weight, l.K, l.Win, l.Border, len(l.Weights), len(l.Norms), len(l.Biases))
		seen = append(seen, slices.Clone(all(l.Weights)), slices.Clone(all(l.Norms)), slices.Clone(all(l.Biases)))
	}
	return seen
}

// loud writes over all that a network holds, its room too.
func loud(n api.Net) {
	for _, l := range n.Layers {
		over(l.Weights, 99)
		over(l.Norms, api.Norm{})
		over(l.Biases, 99)
	}
	over(n.Layers, api.Layer{})
}

// lists are a model's lists, one by one, each to be written over; a list of lists behind those that are in it.
func lists(m api.Model) []func() {
	var write []func()
	for _, p := range m.Packs {
		for _, r := range p.Rows {
			write = append(write, func() { over(r.Sign.Words, 99) }, func() { over(r.Some.Words, 98) })
		}
		write = append(write, func() { over(p.Threshes, api.Thresh{Mode: 97}) }, func() { over(p.Biases, 96) }, func() { over(p.Rows, api.Row{}) })
	}
	return append(write, func() { over(m.Packs, api.Pack{}) })
}

// held is what each list of a model holds, in the order of lists.
func held(m api.Model) []any {
	var seen []any
	for _, p := range m.Packs {
		for _, r := range p.Rows {
			seen = append(seen, slices.Clone(r.Sign.Words), slices.Clone(r.Some.Words))
		}
		seen = append(seen, slices.Clone(p.Threshes), slices.Clone(p.Biases), len(p.Rows))
	}
	return append(seen, len(m.Packs))
}

// shallow is a model whose lists of lists are copied, the lists in them not.
func shallow(m api.Model) api.Model {
	m.Packs = slices.Clone(m.Packs)
	for i := range m.Packs {
		m.Packs[i].Rows = slices.Clone(m.Packs[i].Rows)
	}
	return m
}

// networks are good ones, and such as are refused.
func networks() map[string]api.Net {
	bias := mixed()
	bias.Layers[4].Biases = append(bias.Layers[4].Biases, 1)
	kind := mixed()
	kind.Layers[2].Kind = 9
	weight := mixed()
	weight.Layers[3].Weights[1] = 2
	d := dice(207)
	return map[string]api.Net{
		"tiny": tiny(), "edge": edge(), "mixed": mixed(), "small": small(), "any": d.network(), "any other": d.network(),
		"layers alike": network(of(1, 1, 65), dense(65, 65), dense(65, 65), conv(65, point(), 65), conv(65, point(), 65), last(65, 65)),
		"a bias more":  bias,
		"a Kind":       kind,
		"a weight":     weight,
		"nothing":      {}, "no layers": network(of(1, 1, 1)), "too many layers": network(of(1, 1, 2), slices.Repeat([]api.Layer{dense(2, 2)}, 99)...),
	}
}

// sources are good ones, and bytes that are refused.
func sources(t *testing.T) map[string][]byte {
	t.Helper()
	files := map[string][]byte{"no bytes": {}, "no chunks": container(t, magic), "another magic": container(t, 7, chunksOf(t, tiny())...)}
	for what, n := range networks() {
		b, e := source.Encode(n)
		if e != api.OK {
			continue
		}
		files[what] = b
		files[what+", cut off"] = b[:len(b)-1]
		cs := chunksOf(t, n)
		files[what+", a chunk more"] = container(t, magic, append(cs, cs[0])...)
	}
	return files
}

// TestNetworksStay: Of changes nothing that is handed in, nor the room behind it, and keeps nothing of it.
func TestNetworksStay(t *testing.T) {
	for what, given := range networks() {
		n := roomy(given)
		was := picture(n)
		m, at, e := convert.Of(n)
		if !reflect.DeepEqual(picture(n), was) {
			t.Errorf("P20.7: %s: what was handed in is changed", what)
		}
		keep := settled(m)
		loud(n)
		if !reflect.DeepEqual(settled(m), keep) {
			t.Errorf("P20.7: %s: the model changed with the network", what)
		}
		for _, again := range []api.Net{roomy(given), given} {
			if got, atToo, eToo := convert.Of(again); !same(got, keep) || atToo != at || eToo != e {
				t.Errorf("P20.7: %s: another answer: %d, %d, before %d, %d", what, atToo, eToo, at, e)
			}
		}
	}
}

// TestModelsAreTheirOwn writes models full, with the room behind them, list by list, and looks at all else.
func TestModelsAreTheirOwn(t *testing.T) {
	for what, n := range networks() {
		n = roomy(n)
		pictured := picture(n)
		other, _, e := convert.Of(n)
		was := held(other)
		total := len(lists(other))
		for i := range total {
			if total > 200 && i%37 > 2 && i < total-20 { // of many lists some
				continue
			}
			m, _, _ := convert.Of(n)
			mine := shallow(m)
			lists(m)[i]()
			now := held(mine)
			for j := range was {
				if j != i && !reflect.DeepEqual(now[j], was[j]) {
					t.Errorf("P20.7: %s: the lists %d and %d of a model share memory", what, i, j)
				}
			}
			if !reflect.DeepEqual(picture(n), pictured) || !reflect.DeepEqual(held(other), was) {
				t.Errorf("P20.7: %s: a model shares memory with the network or with another model", what)
			}
			if again, _, eToo := convert.Of(n); !same(again, other) || eToo != e {
				t.Errorf("P20.7: %s: once an answer is written over: %d, and before %d", what, eToo, e)
			}
		}
	}
}

// TestSourcesStay: Convert changes no bytes, nor the room behind them, and keeps nothing of them; its answers are their own.
func TestSourcesStay(t *testing.T) {
	for what, given := range sources(t) {
		src := room(given, 85)
		was := slices.Clone(all(src))
		b, e := convert.Convert(src)
		keep := slices.Clone(b)
		other, _ := convert.Convert(src)
		if !bytes.Equal(all(src), was) {
			t.Errorf("P20.7: %s: Convert changed what was handed in", what)
		}
		over(b, 0xEE)
		if !bytes.Equal(all(src), was) || !bytes.Equal(other, keep) {
			t.Errorf("P20.7: %s: an answer shares memory with the source or with another answer", what)
		}
		over(src, 'z')
		again, eToo := convert.Convert(given)
		if !bytes.Equal(other, keep) || !bytes.Equal(again, keep) || e != eToo {
			t.Errorf("P20.7: %s: an answer changed with the source, or is another one: %d, %d", what, e, eToo)
		}
	}
}

// TestTextsStay: what Text answers is its own, the same again, and hangs on the text alone.
func TestTextsStay(t *testing.T) {
	texts := []string{"", "nothing", tinyText, edgeText, strings.Replace(tinyText, "5 -5", "5", 1)}
	for _, n := range networks() {
		if s, e := text.Print(n); e == api.OK {
			texts = append(texts, s)
		}
	}
	for _, s := range texts {
		b, line, e := convert.Text(s)
		keep := slices.Clone(b)
		other, _, _ := convert.Text(s)
		over(b, 0xEE)
		again, lineToo, eToo := convert.Text(strings.Clone(s))
		if !bytes.Equal(other, keep) || !bytes.Equal(again, keep) || line != lineToo || e != eToo {
			t.Errorf("P20.7: %.100q: an answer that is written over changes another: %d, %d, before %d, %d", s, lineToo, eToo, line, e)
		}
	}
}

// TestNilAndEmpty: lists without elements are the same as nil.
func TestNilAndEmpty(t *testing.T) {
	for _, n := range []api.Net{tiny(), edge(), mixed(), small()} {
		want, _, _ := convert.Of(n)
		n = net.Clone(n)
		for i, l := range n.Layers {
			l.Weights, l.Norms, l.Biases = append([]int8{}, l.Weights...), append([]api.Norm{}, l.Norms...), append([]int64{}, l.Biases...)
			n.Layers[i] = l
		}
		if m, at, e := convert.Of(n); e != api.OK || at != 0 || !reflect.DeepEqual(m, want) {
			t.Errorf("P0.4: with empty lists %s becomes %s, %d, %d", n.Name, show(m), at, e)
		}
	}
}

// TestAgain: the same calls again, from several goroutines, answer the same.
func TestAgain(t *testing.T) {
	var group sync.WaitGroup
	for what, n := range networks() {
		first, at, e := convert.Of(n)
		for range 4 {
			group.Go(func() {
				for range 10 {
					if again, atToo, eToo := convert.Of(n); !reflect.DeepEqual(again, first) || atToo != at || eToo != e {
						t.Errorf("P20.7: %s: first %d, %d, then %d, %d", what, at, e, atToo, eToo)
					}
				}
			})
		}
	}
	for what, src := range sources(t) {
		first, e := convert.Convert(src)
		for range 4 {
			group.Go(func() {
				for range 10 {
					if again, eToo := convert.Convert(src); !bytes.Equal(again, first) || eToo != e {
						t.Errorf("P20.7: %s: first %d, then %d", what, e, eToo)
					}
				}
			})
		}
	}
	group.Wait()
}
