package net_test

import (
	"math"
	"reflect"
	"slices"
	"strings"
	"sync"
	"testing"

	"heddle/api"
	"heddle/net"
)

// wild is a network that may not be: every number and list is off.
func wild() api.Net {
	odd := api.Frac{Num: math.MinInt64, Den: math.MaxInt64}
	l := api.Layer{Kind: math.MinInt, Weight: math.MaxInt, K: -7, Win: win(math.MinInt, math.MaxInt, -1, 0, 99, -99, 1<<40, -1<<40), Border: 1 << 50,
		Weights: []int8{-128, 127, 5}, Norms: []api.Norm{{G: odd}, {B: odd, S: odd}}, Biases: []int64{math.MinInt64, math.MaxInt64, 0, 4}}
	return api.Net{Name: strings.Repeat("\xff é\x00", 50), In: of(math.MinInt, -1, math.MaxInt), Layers: []api.Layer{l, {}, l, {Kind: 3}}}
}

// nets are networks of all sorts, each in memory of its own.
func nets() map[string]func() api.Net {
	return map[string]func() api.Net{
		"the example": example,
		"mixed":       mixed,
		"wild":        wild,
		"one layer":   func() api.Net { return network(of(1, 1, 3), last(2, 3)) },
		"no layers":   func() api.Net { return api.Net{Name: "none", In: of(1, 2, 3)} },
		"nothing":     func() api.Net { return api.Net{} },
	}
}

// lists are all lists within a network, the layers first.
func lists(n *api.Net) []reflect.Value {
	all := []reflect.Value{reflect.ValueOf(&n.Layers).Elem()}
	for i := range n.Layers {
		l := &n.Layers[i]
		all = append(all, reflect.ValueOf(&l.Weights).Elem(), reflect.ValueOf(&l.Norms).Elem(), reflect.ValueOf(&l.Biases).Elem())
	}
	return all
}

func same(t *testing.T, what string, a, b api.Net, want bool) {
	t.Helper()
	if net.Equal(a, b) != want || net.Equal(b, a) != want {
		t.Errorf("P5.3: %s: Equal = %v, %v, want %v", what, net.Equal(a, b), net.Equal(b, a), want)
	}
}

func TestEqualButForOneThing(t *testing.T) {
	for what, make := range nets() {
		a := make()
		same(t, what+" twice", a, make(), true)
		same(t, what+" and itself", a, a, true)
		for i := range leaves(reflect.ValueOf(&a).Elem()) {
			b := make()
			leaf := leaves(reflect.ValueOf(&b).Elem())[i]
			if leaf.Kind() == reflect.String {
				for _, s := range []string{"", "m", leaf.String() + "x", strings.ToUpper(leaf.String()) + "-"} {
					leaf.SetString(s)
					same(t, what+" of another name", a, b, a.Name == s)
				}
				continue
			}
			was := leaf.Int()
			for _, v := range []int64{was + 1, was - 1, was ^ 2, ^was, was ^ math.MinInt64, was ^ 1<<32} {
				leaf.SetInt(v)
				same(t, what+" with another number", a, b, leaf.Int() == was) // an int8 keeps the lowest bits alone
			}
		}
	}
}

func TestEqualOfOtherLengths(t *testing.T) {
	for what, make := range nets() {
		a := make()
		for i, list := range lists(&a) {
			b := make()
			longer := lists(&b)[i]
			longer.Set(reflect.Append(longer, reflect.Zero(longer.Type().Elem())))
			same(t, what+" with a list that is longer", a, b, false)
			if list.Len() == 0 {
				continue
			}
			b = make()
			shorter := lists(&b)[i]
			shorter.Set(shorter.Slice(0, list.Len()-1))
			same(t, what+" with a list that is shorter", a, b, false)
			shorter.Set(reflect.Zero(shorter.Type()))
			same(t, what+" with a list that is gone", a, b, false)
		}
	}
	a, b := example(), example()
	slices.Reverse(b.Layers)
	same(t, "in another order", a, b, false)
	b = example()
	b.Layers[0].Weights, b.Layers[1].Weights = nil, b.Layers[0].Weights
	same(t, "with a list in another layer", a, b, false)
}

// TestNilAndEmpty: lists without elements are the same to every call.
func TestNilAndEmpty(t *testing.T) {
	for what, make := range nets() {
		empty, null := make(), make()
		for i, list := range lists(&empty) {
			if list.Len() == 0 {
				list.Set(reflect.MakeSlice(list.Type(), 0, 3))
				gone := lists(&null)[i]
				gone.Set(reflect.Zero(gone.Type()))
			}
		}
		same(t, what+" with empty lists for nil ones", empty, null, true)
		at, e := net.Check(empty)
		if atToo, eToo := net.Check(null); at != atToo || e != eToo {
			t.Errorf("P5.1: %s: with empty lists %d, %d, with nil ones %d, %d", what, at, e, atToo, eToo)
		}
		same(t, what+", a copy of empty lists", net.Clone(empty), null, true)
		same(t, what+", a copy of nil lists", net.Clone(null), empty, true)
	}
	same(t, "no layers", api.Net{}, api.Net{Layers: []api.Layer{}}, true)
}

// roomy is a network whose lists all have room behind them, in which every place is marked.
func roomy(n api.Net) api.Net {
	for _, list := range lists(&n) {
		long := reflect.MakeSlice(list.Type(), list.Len()+3, list.Len()+3)
		reflect.Copy(long, list)
		for i := range 3 {
			mark(long.Index(list.Len() + i))
		}
		list.Set(long.Slice(0, list.Len()))
	}
	return n
}

// mark writes 85 into every number of v, and drops lists.
func mark(v reflect.Value) {
	switch {
	case v.CanInt():
		v.SetInt(85)
	case v.Kind() == reflect.Struct:
		for i := range v.NumField() {
			mark(v.Field(i))
		}
	default:
		v.SetZero()
	}
}

// overwrite marks all memory of a list, its spare room too.
func overwrite(list reflect.Value) {
	all := list.Slice(0, list.Cap())
	for i := range all.Len() {
		mark(all.Index(i))
	}
}

// picture is all that a network's lists hold, their room too.
func picture(n api.Net) []any {
	all := []any{n.Name, n.In}
	for _, list := range lists(&n) {
		all = append(all, pictureOf(list))
	}
	return all
}

// pictureOf is all that one list holds, its room too.
func pictureOf(list reflect.Value) any {
	full := list.Slice(0, list.Cap())
	keep := reflect.MakeSlice(full.Type(), full.Len(), full.Len())
	reflect.Copy(keep, full)
	return keep.Interface()
}

// held are the same lists, no longer to be reached through the layers, which may be written over.
func held(all []reflect.Value) []reflect.Value {
	for i, list := range all {
		all[i] = reflect.ValueOf(list.Interface())
	}
	return all
}

// TestArgumentsStay: no call changes what is handed in, nor the room behind it.
func TestArgumentsStay(t *testing.T) {
	for what, make := range nets() {
		n, other := roomy(make()), roomy(make())
		was := picture(n)
		net.Check(n)
		net.Shapes(n)
		net.Equal(n, other)
		net.Equal(other, n)
		net.Clone(n)
		if !reflect.DeepEqual(picture(n), was) || !reflect.DeepEqual(picture(other), was) {
			t.Errorf("P5.5: %s: a call changed what was handed in", what)
		}
	}
}

// TestCopiesAreTheirOwn writes a copy's lists full, one by one, and looks at all the others.
func TestCopiesAreTheirOwn(t *testing.T) {
	for what, make := range nets() {
		n := roomy(make())
		was := picture(n)
		for i := range lists(&n) {
			first, second := net.Clone(n), net.Clone(n)
			same(t, what+" and its copy", n, first, true)
			mine := held(lists(&first))
			before := picture(first)
			overwrite(mine[i])
			for j := range mine {
				if j != i && !reflect.DeepEqual(pictureOf(mine[j]), before[2+j]) {
					t.Errorf("P5.4: %s: the lists %d and %d of a copy share memory", what, i, j)
				}
			}
			if !reflect.DeepEqual(picture(n), was) {
				t.Errorf("P5.4: %s: the list %d of a copy lies in what was handed in", what, i)
			}
			same(t, what+": a second copy", second, n, true)
		}
		kept := net.Clone(n)
		for _, list := range held(lists(&n)) {
			overwrite(list)
		}
		same(t, what+": a copy once what was copied is written over", kept, make(), true)
	}
}

// TestCopiesOfSharedLists: what shares memory as it is handed in does not as it is answered.
func TestCopiesOfSharedLists(t *testing.T) {
	long := ones(9)
	l := dense(3, 3)
	l.Weights = long[:3]
	m := l
	m.Weights = long[3:6]
	n := network(of(1, 1, 3), l, l, m)
	c := net.Clone(n)
	same(t, "a copy of shared lists", n, c, true)
	overwrite(reflect.ValueOf(c.Layers[0].Weights))
	overwrite(reflect.ValueOf(c.Layers[0].Norms))
	if c.Layers[1].Weights[0] != 1 || c.Layers[1].Norms[0] != step() || c.Layers[2].Weights[0] != 1 || slices.Contains(long, 85) {
		t.Error("P5.4: lists of a copy share memory")
	}
	c = net.Clone(n)
	c.Layers[0].Weights = append(c.Layers[0].Weights, 7)
	if long[3] != 1 || c.Layers[2].Weights[0] != 1 {
		t.Error("P5.4: what is laid behind a copy's list lies in what was handed in")
	}
}

// TestCopiesCanBeNets: a copy is told to be what its network is told to be.
func TestCopiesCanBeNets(t *testing.T) {
	for what, make := range nets() {
		c := net.Clone(make())
		if !reflect.DeepEqual(leafValues(c), leafValues(make())) {
			t.Errorf("P5.4: %s: a copy differs", what)
		}
		at, e := net.Check(make())
		if atToo, eToo := net.Check(c); at != atToo || e != eToo {
			t.Errorf("P5.4: %s: Check = %d, %d, of a copy %d, %d", what, at, e, atToo, eToo)
		}
	}
}

func leafValues(n api.Net) []any {
	var all []any
	for _, v := range leaves(reflect.ValueOf(n)) {
		all = append(all, v.Interface())
	}
	return all
}

func TestShapesAreNew(t *testing.T) {
	n := mixed()
	first, _ := net.Shapes(n)
	second, _ := net.Shapes(n)
	want := slices.Clone(second)
	overwrite(reflect.ValueOf(first))
	third, _ := net.Shapes(n)
	if !slices.Equal(second, want) || !slices.Equal(third, want) || n.In != mixed().In {
		t.Error("P5.5: lists that Shapes answered share memory, or are kept")
	}
}

// TestManyAtATime asks from several goroutines: what one is answered does not hang on the others.
func TestManyAtATime(t *testing.T) {
	all := nets()
	var wg sync.WaitGroup
	for range 8 {
		for what, make := range all {
			wg.Go(func() {
				for range 50 {
					n := make()
					at, e, shapes := told(n)
					gotAt, got := net.Check(n)
					gotShapes, _ := net.Shapes(n)
					if gotAt != at || got != e || !slices.Equal(gotShapes, shapes) || !net.Equal(net.Clone(n), n) {
						t.Errorf("P0.5: %s: asked at a time with others: %d, %d, %v", what, gotAt, got, gotShapes)
					}
				}
			})
		}
	}
	wg.Wait()
}
