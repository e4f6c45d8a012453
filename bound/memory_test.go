package bound_test

import (
	"reflect"
	"slices"
	"sync"
	"testing"

	"heddle/api"
	"heddle/bound"
	"heddle/net"
)

// room is a list in memory of its own, with three marked elements in the room behind it.
func room[T any](list []T, marked T) []T {
	long := append(slices.Clone(list), marked, marked, marked)
	return slices.Clip(long)[:len(list)]
}

// all is a list with the room behind it.
func all[T any](list []T) []T { return list[:cap(list)] }

// fill writes v over a list and the room behind it.
func fill[T any](list []T, v T) {
	for i := range all(list) {
		all(list)[i] = v
	}
}

// roomy is a network in memory of its own, whose lists all have marked room behind them.
func roomy(n api.Net) api.Net {
	n = net.Clone(n)
	for i, l := range n.Layers {
		l.Weights, l.Norms, l.Biases = room(l.Weights, 85), room(l.Norms, from(85)), room(l.Biases, 85)
		n.Layers[i] = l
	}
	n.Layers = room(n.Layers, api.Layer{Kind: 85, Weights: []int8{85}})
	return n
}

// picture is all that a network holds, the room behind its lists too.
func picture(n api.Net) []any {
	seen := []any{n.Name, n.In, len(n.Layers)}
	for _, l := range all(n.Layers) {
		seen = append(seen, l.Kind, l.Weight, l.K, l.Win, l.Border, len(l.Weights), len(l.Norms), len(l.Biases))
		seen = append(seen, slices.Clone(all(l.Weights)), slices.Clone(all(l.Norms)), slices.Clone(all(l.Biases)))
	}
	return seen
}

// loud writes over all that a network holds.
func loud(n api.Net) {
	for _, l := range n.Layers {
		fill(l.Weights, -1)
		fill(l.Norms, from(-85))
		fill(l.Biases, 99)
	}
	fill(n.Layers, api.Layer{})
}

// nets are networks that are answered, and such as are refused.
func nets() map[string]api.Net {
	bad := mixed()
	bad.Layers[5].Biases = append(bad.Layers[5].Biases, 1)
	d := dice(21)
	return map[string]api.Net{
		"tiny":           tiny(),
		"edge":           edge(-1),
		"mixed":          mixed(),
		"pools":          network(of(2, 2, 1), conv(point(), 0, read("+-+"), froms(0, 0, 0)...), pool(point()), pool(point()), last(d.weights(24), 1, 2)),
		"layers alike":   network(of(1, 1, 3), dense(read("++++-+00-"), froms(0, 1, 2)...), dense(read("++++-+00-"), froms(0, 1, 2)...), last(read("++++-+00-"), 0, 1, 2)),
		"with a fault":   bad,
		"the zero one":   {},
		"without layers": network(of(1, 1, 1)),
	}
}

// answer is what Net tells.
type answer struct {
	lists [][]api.Reach
	at    int
	e     api.Errno
}

func ask(n api.Net) answer {
	lists, at, e := bound.Net(n)
	return answer{lists, at, e}
}

// copied is the answer in memory of its own.
func (a answer) copied() answer {
	a.lists = slices.Clone(a.lists)
	for i := range a.lists {
		a.lists[i] = slices.Clone(a.lists[i])
	}
	return a
}

// TestArgumentsOfNetStay: the network is neither changed nor kept, its spare room neither.
func TestArgumentsOfNetStay(t *testing.T) {
	for what, plainly := range nets() {
		n := roomy(plainly)
		was := picture(n)
		a := ask(n)
		if !reflect.DeepEqual(picture(n), was) {
			t.Errorf("P17.5: %s: Net changed what was handed in", what)
		}
		before := a.copied()
		loud(n)
		if !reflect.DeepEqual(a, before) {
			t.Errorf("P17.5: %s: an answer lies in what was handed in", what)
		}
		for _, again := range []answer{ask(roomy(plainly)), ask(plainly)} {
			if !reflect.DeepEqual(again, before) {
				t.Errorf("P17.5: %s: first %v, then %v", what, before, again)
			}
		}
	}
}

// TestAnswersAreNew: who writes into a list of an answer, and into the room behind it, changes no other list of it, no other answer and no argument.
func TestAnswersAreNew(t *testing.T) {
	for what, plainly := range nets() {
		n := roomy(plainly)
		was := picture(n)
		before := ask(n).copied()
		for i := range before.lists {
			mine, other := ask(n), ask(n)
			fill(mine.lists[i], reach(77, 78))
			_ = append(mine.lists[i], reach(79, 80))
			for j := range mine.lists {
				if j != i && !slices.Equal(mine.lists[j], before.lists[j]) {
					t.Errorf("P17.5: %s: the lists %d and %d of an answer share memory", what, i, j)
				}
			}
			fill(mine.lists, nil)
			if !reflect.DeepEqual(other, before) {
				t.Errorf("P17.5: %s: two answers share memory", what)
			}
		}
		if !reflect.DeepEqual(picture(n), was) {
			t.Errorf("P17.5: %s: writing into an answer changed what was handed in", what)
		}
		if again := ask(n); !reflect.DeepEqual(again, before) {
			t.Errorf("P17.5: %s: first %v, then %v", what, before, again)
		}
	}
}

// TestArgumentsOfRowStay: the row is neither changed nor kept, its spare room neither, whether it is answered or refused; its two lists may lie in one memory.
func TestArgumentsOfRowStay(t *testing.T) {
	rows := []api.Row{{}, packed(t, read("++-0")), packed(t, many(63, 30, 20)), packed(t, many(64, 1, 63)), packed(t, many(65, 0, 65)), packed(t, many(300, 100, 100))}
	for _, c := range badRows() {
		rows = append(rows, c.r)
	}
	for _, r := range rows {
		for _, x := range []api.Reach{reach(-5, 7), reach(2, 1), reach(-most, most)} {
			want, e := bound.Row(r, x)
			mine := api.Row{Sign: bits(r.Sign.Len, room(r.Sign.Words, full)...), Some: bits(r.Some.Len, room(r.Some.Words, full)...)}
			sign, some := slices.Clone(all(mine.Sign.Words)), slices.Clone(all(mine.Some.Words))
			if got, gotE := bound.Row(mine, x); got != want || gotE != e {
				t.Errorf("P17.5: with spare room Row = %v, %d, not %v, %d", got, gotE, want, e)
			}
			if !slices.Equal(all(mine.Sign.Words), sign) || !slices.Equal(all(mine.Some.Words), some) {
				t.Error("P17.5: Row changed what was handed in")
			}
			fill(mine.Sign.Words, 5)
			fill(mine.Some.Words, 9)
			row(t, "the same again", r, x, want, e)
		}
	}
	one := bits(70, room([]uint64{0xff0f, 33}, full)...)
	row(t, "one memory", api.Row{Sign: one, Some: one}, reach(-1, 2), reach(-14, 28), api.OK)
}

// TestSharedLists: a network whose layers share their lists.
func TestSharedLists(t *testing.T) {
	weights, norms := read("++++-+00-"), froms(0, 1, 2)
	n := network(of(1, 1, 3), dense(weights, norms...), dense(weights, norms...), last(weights, 0, 1, 2))
	tells(t, "shared lists", n, [][]api.Reach{{reach(-384, 381), reach(-383, 382), reach(-127, 128)}, {reach(-3, 3), reach(-3, 3), reach(-1, 1)}, {reach(-3, 3), reach(-2, 4), reach(1, 3)}})
}

// TestNilAndEmpty: lists without elements are the same as nil.
func TestNilAndEmpty(t *testing.T) {
	n := mixed()
	want := meant(t, n)
	for i, l := range n.Layers {
		if l.Weights == nil {
			n.Layers[i].Weights = []int8{}
		}
		if l.Norms == nil {
			n.Layers[i].Norms = []api.Norm{}
		}
		if l.Biases == nil {
			n.Layers[i].Biases = []int64{}
		}
	}
	tells(t, "empty lists", n, want)
	refused(t, "no layers", api.Net{Name: "n", In: of(1, 1, 1), Layers: []api.Layer{}}, -1, api.ErrLayers)
}

// TestAgain: the same calls again, in another order and from several goroutines, answer the same.
func TestAgain(t *testing.T) {
	first := map[string]answer{}
	for what, n := range nets() {
		first[what] = ask(n)
	}
	weights := packed(t, many(65, 40, 20))
	var group sync.WaitGroup
	for range 4 {
		group.Go(func() {
			for range 20 {
				for what, n := range nets() {
					if a := ask(n); !reflect.DeepEqual(a, first[what]) {
						t.Errorf("P17.5: %s: first %v, then %v", what, first[what], a)
					}
				}
				row(t, "40 pluses, 20 minuses", weights, reach(-2, 3), reach(-140, 160), api.OK)
			}
		})
	}
	group.Wait()
}
