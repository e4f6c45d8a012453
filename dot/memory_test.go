package dot_test

import (
	"reflect"
	"slices"
	"testing"

	"heddle/api"
	"heddle/dot"
)

const mark = 0xabcd

// room is a list in memory of its own, with three marked elements in the room behind it.
func room[T any](list []T, marked T) []T {
	long := append(slices.Clone(list), marked, marked, marked)
	return slices.Clip(long)[:len(list)]
}

// all is a list with the room behind it.
func all[T any](list []T) []T { return list[:cap(list)] }

// over writes v over a list and the room behind it.
func over[T any](list []T, v T) {
	for i := range all(list) {
		all(list)[i] = v
	}
}

func roomyBits(b api.Bits) api.Bits { return api.Bits{Len: b.Len, Words: room(b.Words, mark)} }

func roomyRow(r api.Row) api.Row {
	return api.Row{Sign: roomyBits(r.Sign), Some: roomyBits(r.Some)}
}

// given is all that a call of the package may be handed.
type given struct {
	w, x   []int8
	r, s   api.Row
	b      api.Bits
	planes [8]api.Bits
}

// roomy is the same in memory of its own, each list with marked room behind it.
func (g given) roomy() given {
	g.w, g.x, g.r, g.s, g.b = room(g.w, 85), room(g.x, 85), roomyRow(g.r), roomyRow(g.s), roomyBits(g.b)
	for p, plane := range g.planes {
		g.planes[p] = roomyBits(plane)
	}
	return g
}

// rows are all rows of bits that it holds.
func (g given) rows() []api.Bits {
	return append([]api.Bits{g.r.Sign, g.r.Some, g.s.Sign, g.s.Some, g.b}, g.planes[:]...)
}

// picture is all that it holds, the room behind each list too.
func (g given) picture() []any {
	seen := []any{slices.Clone(all(g.w)), len(g.w), slices.Clone(all(g.x)), len(g.x)}
	for _, b := range g.rows() {
		seen = append(seen, b.Len, len(b.Words), slices.Clone(all(b.Words)))
	}
	return seen
}

// loud writes over all that it holds, the room behind each list too.
func (g given) loud() {
	over(g.w, 99)
	over(g.x, 99)
	for _, b := range g.rows() {
		over(b.Words, 0xfefe)
	}
}

// gifts are arguments of which every call answers, and such as are refused.
func gifts() map[string]given {
	made := map[string]given{}
	for what, n := range map[string]int{"none": 0, "one": 1, "63": 63, "64": 64, "65": 65, "many": 300} {
		w, x := weights(n)[7], numbers(n)[7]
		made[what] = given{w, x, packed(w), packed(weights(n)[3]), signsOf(weights(n)[8]), planesOf(x)}
	}
	refused := made["65"]
	refused.w = append(slices.Clone(refused.w), 2)
	made["no weight"] = refused
	refused.r.Sign = plain(65, 1, 3)
	made["a bit behind the end"] = refused
	refused.r = api.Row{Sign: plain(65, full, 1), Some: plain(65, full-1, 1)}
	made["Sign alone"] = refused
	refused = made["64"]
	refused.s, refused.b, refused.planes[5] = packed(make([]int8, 63)), plain(63, 1), plain(64)
	made["other lengths"] = refused
	return made
}

// answer is what all calls tell of what they are given, in new memory.
type answer struct {
	check, packE, unpackE, planesE, signsE, someE, numbersE api.Errno
	pack                                                    api.Row
	unpack                                                  []int8
	planes                                                  [8]api.Bits
	signs, some, numbers                                    int64
}

func ask(g given) answer {
	var a answer
	a.check = dot.Check(g.r)
	a.pack, a.packE = dot.Pack(g.w...)
	a.unpack, a.unpackE = dot.Unpack(g.r)
	a.signs, a.signsE = dot.Signs(g.r, g.b)
	a.some, a.someE = dot.Some(g.r, g.s)
	a.planes, a.planesE = dot.Planes(g.x...)
	a.numbers, a.numbersE = dot.Numbers(g.r, g.planes)
	return a
}

// words are all lists of words of an answer.
func (a *answer) words() []*[]uint64 {
	lists := []*[]uint64{&a.pack.Sign.Words, &a.pack.Some.Words}
	for p := range a.planes {
		lists = append(lists, &a.planes[p].Words)
	}
	return lists
}

// copied is the answer in memory of its own.
func (a answer) copied() answer {
	a.unpack = slices.Clone(a.unpack)
	for _, l := range a.words() {
		*l = slices.Clone(*l)
	}
	return a
}

// TestArgumentsStay: what is handed in is neither changed nor kept, its spare room neither.
func TestArgumentsStay(t *testing.T) {
	for what, plainly := range gifts() {
		g := plainly.roomy()
		was := g.picture()
		a := ask(g)
		if !reflect.DeepEqual(g.picture(), was) {
			t.Errorf("P10.7: %s: a call changed what was handed in", what)
		}
		before := a.copied()
		g.loud()
		if !reflect.DeepEqual(a, before) {
			t.Errorf("P10.7: %s: an answer lies in what was handed in", what)
		}
		if again := ask(plainly.roomy()); !reflect.DeepEqual(again, before) {
			t.Errorf("P10.7: %s: the same calls again answer otherwise", what)
		}
		if again := ask(plainly); !reflect.DeepEqual(again, before) {
			t.Errorf("P10.7: %s: the same calls without spare room answer otherwise", what)
		}
	}
}

// TestAnswersAreNew: who writes into a list of an answer, and into the room behind it, changes no other list of it, no other answer and no argument.
func TestAnswersAreNew(t *testing.T) {
	for what, plainly := range gifts() {
		g := plainly.roomy()
		was := g.picture()
		before := ask(g).copied()
		lists := len(before.words())
		for at := range lists {
			a, other := ask(g), ask(g)
			mine := a.words()[at]
			over(*mine, 0xfefe)
			_ = append(*mine, 1)
			*mine = slices.Clone(*before.words()[at])
			if !reflect.DeepEqual(a, before) {
				t.Errorf("P10.7: %s: list %d of an answer shares memory with another of it", what, at)
			}
			if !reflect.DeepEqual(other, before) {
				t.Errorf("P10.7: %s: list %d of an answer shares memory with another answer", what, at)
			}
		}
		a, other := ask(g), ask(g)
		over(a.unpack, 99)
		_ = append(a.unpack, 1)
		if !reflect.DeepEqual(other, before) {
			t.Errorf("P10.7: %s: two answers of Unpack share memory", what)
		}
		if !reflect.DeepEqual(g.picture(), was) {
			t.Errorf("P10.7: %s: writing into an answer changed what was handed in", what)
		}
		if again := ask(g); !reflect.DeepEqual(again, before) {
			t.Errorf("P10.7: %s: the same calls again answer otherwise", what)
		}
	}
}

// TestSharedArguments: rows that are handed in may lie in one memory.
func TestSharedArguments(t *testing.T) {
	b := roomyBits(plain(70, 0xff0f, 33))
	const ones = 8 + 4 + 2
	r := api.Row{Sign: b, Some: b}
	s, e := dot.Some(r, r)
	wantSum(t, "P10.4: Some of one row and itself", s, e, ones)
	s, e = dot.Signs(r, b)
	wantSum(t, "P10.3: Signs of one row and itself", s, e, ones)
	s, e = dot.Numbers(r, [8]api.Bits{b, b, b, b, b, b, b, b})
	wantSum(t, "P10.6: Numbers of one row and itself", s, e, -ones)
	if !same(b, plain(70, 0xff0f, 33)) || !slices.Equal(all(b.Words)[2:], []uint64{mark, mark, mark}) {
		t.Errorf("P10.7: a call changed what was handed in: %v", b)
	}
}
