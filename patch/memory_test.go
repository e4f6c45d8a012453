package patch_test

import (
	"reflect"
	"slices"
	"testing"

	"heddle/api"
	"heddle/patch"
)

const mark = 0xabcd

// room is a list in memory of its own, with three marked elements in the room behind it.
func room[T any](list []T, marked T) []T {
	long := append(slices.Clone(list), marked, marked, marked)
	return slices.Clip(long)[:len(list)]
}

// all is a list with the room behind it.
func all[T any](list []T) []T { return list[:cap(list)] }

// over writes v over a list and the room behind it.
func over[T any](list []T, v T) {
	for i := range all(list) {
		all(list)[i] = v
	}
}

// gift is all that a call of the package may be handed.
type gift struct {
	what     string
	c        api.Cube
	w        api.Window
	border   int
	r, seen  api.Row
	channels int
	weights  []int8
}

// words are all lists of words that it holds.
func (g *gift) words() []*[]uint64 {
	return []*[]uint64{&g.c.Words, &g.r.Sign.Words, &g.r.Some.Words, &g.seen.Sign.Words, &g.seen.Some.Words}
}

// roomy is the same in memory of its own, each list with marked room behind it.
func (g gift) roomy() gift {
	for _, l := range g.words() {
		*l = room(*l, mark)
	}
	g.weights = room(g.weights, 85)
	return g
}

// picture is all that it holds, the room behind each list too.
func (g gift) picture() []any {
	made := []any{g.c.Shape, g.w, g.border, g.channels, len(g.weights), slices.Clone(all(g.weights))}
	for _, l := range g.words() {
		made = append(made, len(*l), slices.Clone(all(*l)))
	}
	return append(made, g.r.Sign.Len, g.r.Some.Len, g.seen.Sign.Len, g.seen.Some.Len)
}

// loud writes over all that it holds, the room behind each list too.
func (g gift) loud() {
	for _, l := range g.words() {
		over(*l, 0xfefe)
	}
	over(g.weights, 99)
}

// gifts are arguments of which every call answers, and such as are refused.
func gifts() []gift {
	var made []gift
	for _, c := range channels {
		for i, b := range borders {
			x := someTensor(shapeOf(3, 2, c), c+i)
			w := win(2, 3, 1, 2, 2, i, 1, 2)
			seen := laid(c, x.seenAt(w, 0, 0, 0))
			weights := someWeights(2*3*c, c+i)
			made = append(made, gift{"answered", x.cube(), w, b, laid(c, weights), seen, c, weights})
		}
	}
	bad := made[7]
	bad.what, bad.border, bad.seen, bad.channels = "a wrong border, another Len, too many channels", 2, laid(1, []int8{1, 0, 0}), 4097
	made = append(made, bad)
	bad = made[7]
	bad.what, bad.w, bad.weights, bad.r = "a wrong window, a wrong weight, a row of another kind", win(16, 1, 1, 1), append([]int8{1, 2}, bad.weights[2:]...), line([]uint64{1}, []uint64{2})
	made = append(made, bad)
	bad = made[7]
	bad.what, bad.c.Words, bad.weights, bad.r.Sign.Words = "a word too few, a weight too few", bad.c.Words[1:], bad.weights[1:], bad.r.Sign.Words[1:]
	made = append(made, bad)
	bad = made[7]
	bad.what, bad.w, bad.weights = "a window that does not fit, no weights", win(15, 15, 1, 1), nil
	return append(made, bad)
}

// answer is what all calls tell of what they are given.
type answer struct {
	seeE, lostE, spreadE api.Errno
	see                  []api.Row
	shape                api.Shape
	lost                 int64
	spread               api.Row
}

func ask(g gift) answer {
	var a answer
	a.see, a.shape, a.seeE = patch.See(g.c, g.w, g.border)
	a.lost, a.lostE = patch.Lost(g.r, g.seen)
	a.spread, a.spreadE = patch.Spread(g.channels, g.weights...)
	return a
}

// words are all lists of words of an answer.
func (a *answer) words() []*[]uint64 {
	made := []*[]uint64{&a.spread.Sign.Words, &a.spread.Some.Words}
	for i := range a.see {
		made = append(made, &a.see[i].Sign.Words, &a.see[i].Some.Words)
	}
	return made
}

// copied is the answer in memory of its own.
func (a answer) copied() answer {
	a.see = slices.Clone(a.see)
	for _, l := range a.words() {
		*l = slices.Clone(*l)
	}
	return a
}

// TestArgumentsStay: what is handed in is neither changed nor kept, its spare room neither.
func TestArgumentsStay(t *testing.T) {
	for _, plainly := range gifts() {
		g := plainly.roomy()
		was := g.picture()
		a := ask(g)
		if !reflect.DeepEqual(g.picture(), was) {
			t.Errorf("P13.5: %v, %s: a call changed what was handed in", g.c.Shape, g.what)
		}
		before := a.copied()
		g.loud()
		if !reflect.DeepEqual(a, before) {
			t.Errorf("P13.5: %v, %s: an answer lies in what was handed in", g.c.Shape, g.what)
		}
		if again := ask(plainly.roomy()); !reflect.DeepEqual(again, before) {
			t.Errorf("P13.5: %v, %s: the same calls again answer otherwise", g.c.Shape, g.what)
		}
	}
}

// TestGiftsAnswered: of the gifts that are to be answered every call is, and of the others some call is refused.
func TestGiftsAnswered(t *testing.T) {
	for _, g := range gifts() {
		a := ask(g)
		ok := a.seeE == api.OK && a.lostE == api.OK && a.spreadE == api.OK && len(a.see) > 1
		if ok != (g.what == "answered") {
			t.Errorf("P13.5: %v, %s: %d, %d, %d", g.c.Shape, g.what, a.seeE, a.lostE, a.spreadE)
		}
	}
}

// TestAnswersAreOwn: each list of an answer is written full with all its room; no other list changes, and the same call again answers as before.
func TestAnswersAreOwn(t *testing.T) {
	for _, g := range gifts() {
		a, other := ask(g), ask(g)
		before := a.copied()
		lists := a.words()
		for i, l := range lists {
			over(*l, 0xfefe)
			for k, m := range lists {
				if k > i && !slices.Equal(*m, *before.words()[k]) {
					t.Errorf("P13.5: %v, %s: the lists %d and %d of an answer share memory", g.c.Shape, g.what, i, k)
				}
			}
		}
		for i, l := range lists {
			over(*l, uint64(i))
		}
		for i, l := range lists {
			if slices.ContainsFunc(all(*l), func(v uint64) bool { return v != uint64(i) }) {
				t.Errorf("P13.5: %v, %s: list %d of an answer has room that another one has", g.c.Shape, g.what, i)
			}
		}
		over(a.see, api.Row{})
		if !reflect.DeepEqual(other, before) {
			t.Errorf("P13.5: %v, %s: two answers share memory", g.c.Shape, g.what)
		}
		if !reflect.DeepEqual(ask(g), before) {
			t.Errorf("P13.5: %v, %s: behind a written answer the same calls answer otherwise", g.c.Shape, g.what)
		}
	}
}

// TestNilAndEmpty: a nil list is the same as an empty one.
func TestNilAndEmpty(t *testing.T) {
	some := shapeOf(2, 2, 1)
	_, _, e := patch.See(api.Cube{Shape: some}, win(1, 1, 1, 1), 0)
	_, _, same := patch.See(api.Cube{Shape: some, Words: []uint64{}}, win(1, 1, 1, 1), 0)
	if e != same || e != api.ErrBits {
		t.Errorf("P0.4: See of no words: %d, %d", e, same)
	}
	empty := api.Row{Sign: bitsOf(0, []uint64{}...), Some: api.Bits{Words: []uint64{}}}
	for _, l := range [][2]api.Row{{{}, {}}, {{}, empty}, {empty, {}}, {empty, empty}} {
		n, e := patch.Lost(l[0], l[1])
		wantSum(t, "P0.4: Lost of no bits", n, e, 0)
	}
}
