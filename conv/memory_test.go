package conv_test

import (
	"reflect"
	"slices"
	"testing"

	"heddle/api"
	"heddle/conv"
)

const mark = 0xabcd

// room is a list in memory of its own, with three marked elements in the room behind it.
func room[T any](list []T, marked T) []T {
	long := append(slices.Clone(list), marked, marked, marked)
	return slices.Clip(long)[:len(list)]
}

// all is a list with the room behind it.
func all[T any](list []T) []T { return list[:cap(list)] }

// over writes v over a list and the room behind it.
func over[T any](list []T, v T) {
	for i := range all(list) {
		all(list)[i] = v
	}
}

// gift is all that a call of the package may be handed.
type gift struct {
	what    string
	c       api.Cube
	numbers []int8
	w       api.Window
	border  int
	rows    []api.Row
}

// words are all lists of words that it holds, those of rows in the spare room too.
func (g *gift) words() []*[]uint64 {
	made := []*[]uint64{&g.c.Words}
	for i := range all(g.rows) {
		r := &all(g.rows)[i]
		made = append(made, &r.Sign.Words, &r.Some.Words)
	}
	return made
}

// roomy is the same in memory of its own, each list with marked room behind it.
func (g gift) roomy() gift {
	g.rows = room(g.rows, api.Row{Sign: bitsOf(7, mark), Some: bitsOf(9, mark, mark)})
	for _, l := range g.words() {
		*l = room(*l, mark)
	}
	g.numbers = room(g.numbers, 85)
	return g
}

// picture is all that it holds, the room behind each list too.
func (g gift) picture() []any {
	made := []any{g.c.Shape, g.w, g.border, len(g.rows), cap(g.rows), len(g.numbers), slices.Clone(all(g.numbers))}
	for _, r := range all(g.rows) {
		made = append(made, r.Sign.Len, r.Some.Len)
	}
	for _, l := range g.words() {
		made = append(made, len(*l), slices.Clone(all(*l)))
	}
	return made
}

// loud writes over all that it holds, the room behind each list too.
func (g gift) loud() {
	for _, l := range g.words() {
		over(*l, 0xfefe)
	}
	over(g.numbers, 99)
	over(g.rows, api.Row{Sign: bitsOf(-5), Some: bitsOf(1, full)})
}

// gifts are arguments of which every call answers, and such as are refused.
func gifts() []gift {
	var made []gift
	for _, c := range channels {
		for i, b := range borders {
			s := shapeOf(3, 2, c)
			w := win(2, 3, 1, 2, 2, i, 1, 2)
			rows := laidAll(c, weightsFor(w, c, 3, c+i))
			rows[1] = spoilt(rows[1], c, i)
			made = append(made, gift{"answered", someSigns(s, c+i).cube(), someNumbers(s, i).vals, w, b, rows})
		}
	}
	bad := made[7]
	bad.what, bad.border = "a wrong border", 2
	made = append(made, bad)
	bad = made[7]
	bad.what, bad.w = "a wrong window", win(16, 1, 1, 1)
	made = append(made, bad)
	bad = made[7]
	bad.what, bad.c.Words, bad.numbers = "a word too few, a number too few", bad.c.Words[1:], bad.numbers[1:]
	made = append(made, bad)
	bad = made[7]
	bad.what, bad.rows = "no rows", nil
	made = append(made, bad)
	bad = made[7]
	bad.what, bad.rows = "a row of another kind", []api.Row{bad.rows[0], kindRows()[0].r}
	made = append(made, bad)
	bad = made[7]
	bad.what, bad.rows = "a row of another Len", []api.Row{bad.rows[0], lenRows()[2].r}
	return append(made, bad)
}

// answer is what one call tells.
type answer struct {
	sums  []int64
	shape api.Shape
	e     api.Errno
}

// ask is what all four calls tell.
func ask(g gift) []answer {
	var made []answer
	for _, f := range ways {
		l, s, e := f.call(g.c, g.w, g.border, g.rows)
		made = append(made, answer{l, s, e})
	}
	l, s, e := conv.Numbers(g.c.Shape, g.numbers, g.w, g.border, g.rows)
	return append(made, answer{l, s, e})
}

// copied are answers in memory of their own.
func copied(list []answer) []answer {
	list = slices.Clone(list)
	for i := range list {
		list[i].sums = slices.Clone(list[i].sums)
	}
	return list
}

// TestGiftsAnswered: of the gifts that are to be answered every call is, and of the others none.
func TestGiftsAnswered(t *testing.T) {
	for _, g := range gifts() {
		for _, a := range ask(g) {
			if (a.e == api.OK && len(a.sums) > 3) != (g.what == "answered") {
				t.Errorf("P14.5: %v, %s: %d sums, %d", g.c.Shape, g.what, len(a.sums), a.e)
			}
		}
	}
}

// TestArgumentsStay: what is handed in is neither changed nor kept, its spare room neither.
func TestArgumentsStay(t *testing.T) {
	for _, plainly := range gifts() {
		g := plainly.roomy()
		was := g.picture()
		a := ask(g)
		if !reflect.DeepEqual(g.picture(), was) {
			t.Errorf("P14.5: %v, %s: a call changed what was handed in", g.c.Shape, g.what)
		}
		before := copied(a)
		g.loud()
		if !reflect.DeepEqual(a, before) {
			t.Errorf("P14.5: %v, %s: an answer lies in what was handed in", g.c.Shape, g.what)
		}
		if again := ask(plainly.roomy()); !reflect.DeepEqual(again, before) {
			t.Errorf("P14.5: %v, %s: the same calls again answer otherwise", g.c.Shape, g.what)
		}
	}
}

// TestAnswersAreOwn: a list that was answered is written full with all its room; no other answer changes, no argument either, and the same calls again answer as before.
func TestAnswersAreOwn(t *testing.T) {
	for _, plainly := range gifts() {
		g := plainly.roomy()
		was := g.picture()
		a, other := ask(g), ask(g)
		before := copied(a)
		for i := range a {
			over(a[i].sums, int64(i)-99)
		}
		for i := range a {
			if slices.ContainsFunc(all(a[i].sums), func(n int64) bool { return n != int64(i)-99 }) {
				t.Errorf("P14.5: %v, %s: two calls' answers share memory", g.c.Shape, g.what)
			}
		}
		if !reflect.DeepEqual(other, before) {
			t.Errorf("P14.5: %v, %s: two answers share memory", g.c.Shape, g.what)
		}
		if !reflect.DeepEqual(g.picture(), was) {
			t.Errorf("P14.5: %v, %s: an answer lies in what was handed in", g.c.Shape, g.what)
		}
		if !reflect.DeepEqual(ask(g), before) {
			t.Errorf("P14.5: %v, %s: behind a written answer the same calls answer otherwise", g.c.Shape, g.what)
		}
	}
}

// TestRowsThatAreOne: rows may share memory with one another, and with the cube.
func TestRowsThatAreOne(t *testing.T) {
	w := win(2, 2, 1, 1, 1, 1, 1, 1)
	words := []uint64{full, 0, full, full}
	x := tensor{shapeOf(2, 2, 64), slices.Concat(evenly(shapeOf(1, 1, 64), 1).vals, evenly(shapeOf(1, 1, 64), -1).vals, evenly(shapeOf(1, 2, 64), 1).vals)}
	pluses := slices.Concat(x.vals[:64], make([]int8, 64), x.vals[128:])
	is, shape := x.sums(w, -1, [][]int8{pluses, pluses})
	row := api.Row{Sign: bitsOf(256, words...), Some: bitsOf(256, words...)}
	for _, f := range ways {
		l, s, e := f.call(api.Cube{Shape: x.s, Words: words}, w, -1, []api.Row{row, row})
		want(t, told("P14.2: "+f.what, x.s, w, -1), l, s, e, is, shape)
	}
	if !slices.Equal(words, []uint64{full, 0, full, full}) {
		t.Errorf("P14.5: a call changed what was handed in")
	}
}

// TestNilAndEmpty: a nil list is the same as an empty one.
func TestNilAndEmpty(t *testing.T) {
	s, w := shapeOf(2, 2, 1), win(2, 2, 1, 1)
	x := someSigns(s, 1)
	for _, none := range [][]api.Row{nil, {}, make([]api.Row, 0, 3)} {
		for _, f := range allCalls() {
			l, s, e := f.of(x, w, 0, none)
			refused(t, f.what+" of no rows", l, s, e, api.ErrShape)
		}
	}
	rows := []api.Row{laid(1, []int8{1, 1, 1, 1})}
	for _, none := range [][]int8{nil, {}, make([]int8, 0, 4)} {
		l, sh, e := conv.Numbers(s, none, w, 0, rows)
		refused(t, "Numbers of no numbers", l, sh, e, api.ErrFit)
	}
	for _, none := range [][]uint64{nil, {}, make([]uint64, 0, 4)} {
		for _, f := range ways {
			l, sh, e := f.call(api.Cube{Shape: s, Words: none}, w, 0, rows)
			refused(t, f.what+" of no words", l, sh, e, api.ErrBits)
		}
	}
}
