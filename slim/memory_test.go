package slim_test

import (
	"reflect"
	"slices"
	"sync"
	"testing"

	"heddle/api"
	"heddle/net"
	"heddle/slim"
)

// room is a list in memory of its own, with three marked elements in the room behind it.
func room[T any](list []T, marked T) []T {
	long := append(slices.Clone(list), marked, marked, marked)
	return slices.Clip(long)[:len(list)]
}

// all is a list with the room behind it.
func all[T any](list []T) []T { return list[:cap(list)] }

// fill writes v over a list and the room behind it.
func fill[T any](list []T, v T) {
	for i := range all(list) {
		all(list)[i] = v
	}
}

// roomy is a network in memory of its own, whose lists all have marked room behind them.
func roomy(n api.Net) api.Net {
	n = net.Clone(n)
	for i, l := range n.Layers {
		l.Weights, l.Norms, l.Biases = room(l.Weights, 85), room(l.Norms, from(85)), room(l.Biases, 85)
		n.Layers[i] = l
	}
	n.Layers = room(n.Layers, api.Layer{Kind: 85, Weights: []int8{85}})
	return n
}

// picture is all that a network holds, the room behind its lists too.
func picture(n api.Net) []any {
	seen := []any{n.Name, n.In, len(n.Layers)}
	for _, l := range all(n.Layers) {
		seen = append(seen, l.Kind, l.Weight, l.K, l.Win, l.Border, len(l.Weights), len(l.Norms), len(l.Biases))
		seen = append(seen, slices.Clone(all(l.Weights)), slices.Clone(all(l.Norms)), slices.Clone(all(l.Biases)))
	}
	return seen
}

// loud writes over all that a network holds.
func loud(n api.Net) {
	for _, l := range n.Layers {
		fill(l.Weights, -1)
		fill(l.Norms, from(-85))
		fill(l.Biases, 99)
	}
	fill(n.Layers, api.Layer{})
}

// nets are networks with steps and without, and such as are refused.
func nets() map[string]api.Net {
	bad := mixed()
	bad.Layers[5].Biases = append(bad.Layers[5].Biases, 1)
	return map[string]api.Net{
		"the chapter's":  chapter(),
		"slim already":   chapterSlim(),
		"mixed":          mixed(),
		"bars":           bars(1, brink(-most, 0)),
		"no bars":        bars(1, brink(1-most, 0)),
		"layers alike":   network(of(1, 1, 3), dense(read("++++-+00-"), from(0), from(1), always()), dense(read("++++-+00-"), from(0), from(1), always()), last(read("++++-+00-"), 0, 1, 2)),
		"fractions":      network(of(1, 1, 1), conv(point(), 0, read("+"), api.Norm{G: fr(2, 2), B: fr(0, 9), M: fr(4, 6), S: fr(8, 2)}), pool(point()), last(read("+"), 0)),
		"one layer":      network(of(1, 1, 2), last(read("+0 0-"), 3, 4)),
		"with a fault":   bad,
		"the zero one":   {},
		"without layers": network(of(1, 1, 1)),
	}
}

// answer is what Slim tells, and Dead of each layer and of one that there is not.
type answer struct {
	n     api.Net
	e     api.Errno
	dead  [][]int
	deadE []api.Errno
}

func ask(n api.Net) answer {
	var a answer
	a.n, a.e = slim.Slim(n)
	for layer := range len(n.Layers) + 1 {
		l, e := slim.Dead(n, layer)
		a.dead, a.deadE = append(a.dead, l), append(a.deadE, e)
	}
	return a
}

// copied is the answer in memory of its own.
func (a answer) copied() answer {
	a.n = net.Clone(a.n)
	a.dead = slices.Clone(a.dead)
	for i := range a.dead {
		a.dead[i] = slices.Clone(a.dead[i])
	}
	return a
}

func (a answer) same(b answer) bool {
	return net.Equal(a.n, b.n) && a.e == b.e && slices.EqualFunc(a.dead, b.dead, slices.Equal[[]int]) && slices.Equal(a.deadE, b.deadE)
}

// TestArgumentsStay: the network is neither changed nor kept, its spare room neither, whether it is answered or refused.
func TestArgumentsStay(t *testing.T) {
	for what, plainly := range nets() {
		n := roomy(plainly)
		was := picture(n)
		a := ask(n)
		if !reflect.DeepEqual(picture(n), was) {
			t.Errorf("P18.6: %s: what was handed in has changed", what)
		}
		before := a.copied()
		loud(n)
		if !a.same(before) {
			t.Errorf("P18.6: %s: an answer lies in what was handed in", what)
		}
		for _, again := range []answer{ask(roomy(plainly)), ask(plainly)} {
			if !again.same(before) {
				t.Errorf("P18.6: %s: first %v, then %v", what, before, again)
			}
		}
	}
}

// lists are what writes over each list of an answer, and over the room behind it.
func (a answer) lists() []func() {
	var writes []func()
	for i := range a.n.Layers {
		l := a.n.Layers[i]
		writes = append(writes, func() { fill(l.Weights, 85) }, func() { fill(l.Norms, from(85)) }, func() { fill(l.Biases, 85) })
	}
	for _, l := range a.dead {
		writes = append(writes, func() { fill(l, 85) })
	}
	return writes
}

// pictures are all lists of an answer as they stand, with the room behind them.
func (a answer) pictures() []any {
	var seen []any
	for _, l := range a.n.Layers {
		seen = append(seen, slices.Clone(all(l.Weights)), slices.Clone(all(l.Norms)), slices.Clone(all(l.Biases)))
	}
	for _, l := range a.dead {
		seen = append(seen, slices.Clone(all(l)))
	}
	return seen
}

// TestAnswersAreNew: who writes into a list of an answer, and into the room behind it, changes no other list of it, no other answer and no argument.
func TestAnswersAreNew(t *testing.T) {
	for what, plainly := range nets() {
		n := roomy(plainly)
		was := picture(n)
		before := ask(n).copied()
		for i := range before.lists() {
			mine, other := ask(n), ask(n)
			seen := mine.pictures()
			mine.lists()[i]()
			for j, list := range mine.pictures() {
				if j != i && !reflect.DeepEqual(list, seen[j]) {
					t.Errorf("P18.6: %s: the lists %d and %d of an answer share memory", what, i, j)
				}
			}
			fill(mine.n.Layers, api.Layer{})
			if !other.same(before) {
				t.Errorf("P18.6: %s: two answers share memory", what)
			}
		}
		if !reflect.DeepEqual(picture(n), was) {
			t.Errorf("P18.6: %s: writing into an answer changed what was handed in", what)
		}
		if again := ask(n); !again.same(before) {
			t.Errorf("P18.6: %s: first %v, then %v", what, before, again)
		}
	}
}

// TestSharedLists: a network whose layers share their lists becomes what one does whose layers have their own.
func TestSharedLists(t *testing.T) {
	weights, norms := read("++++-+00-"), []api.Norm{from(0), from(1), always()}
	n := network(of(1, 1, 3), dense(weights, norms...), dense(weights, norms...), last(weights, 0, 1, 2))
	n.Layers[0].Norms, n.Layers[1].Norms = norms, norms
	want, steps := meantSlim(t, n)
	if len(steps) < 2 {
		t.Errorf("there are %d steps", len(steps))
	}
	becomes(t, "shared lists", n, want)
}

// TestNilAndEmpty: lists without elements are the same as nil.
func TestNilAndEmpty(t *testing.T) {
	for what, n := range nets() {
		want := ask(n)
		n = net.Clone(n)
		for i, l := range n.Layers {
			if l.Weights == nil {
				n.Layers[i].Weights = []int8{}
			}
			if l.Norms == nil {
				n.Layers[i].Norms = []api.Norm{}
			}
			if l.Biases == nil {
				n.Layers[i].Biases = []int64{}
			}
		}
		if n.Layers == nil {
			n.Layers = []api.Layer{}
		}
		if got := ask(n); !got.same(want) {
			t.Errorf("P18.6: %s: with empty lists %v, with nil ones %v", what, got, want)
		}
	}
}

// TestAgain: the same calls again, in another order and from several goroutines, answer the same.
func TestAgain(t *testing.T) {
	first := map[string]answer{}
	for what, n := range nets() {
		first[what] = ask(n)
	}
	var group sync.WaitGroup
	for range 4 {
		group.Go(func() {
			for range 20 {
				for what, n := range nets() {
					if a := ask(n); !a.same(first[what]) {
						t.Errorf("P18.6: %s: first %v, then %v", what, first[what], a)
					}
				}
			}
		})
	}
	group.Wait()
}
