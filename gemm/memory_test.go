package gemm_test

import (
	"reflect"
	"slices"
	"testing"

	"heddle/api"
)

const mark = 0xabcd

// room is a list in memory of its own, with three marked elements in the room behind it.
func room[T any](list []T, marked T) []T {
	long := append(slices.Clone(list), marked, marked, marked)
	return slices.Clip(long)[:len(list)]
}

// all is a list with the room behind it.
func all[T any](list []T) []T { return list[:cap(list)] }

// over writes v over a list and the room behind it.
func over[T any](list []T, v T) {
	for i := range all(list) {
		all(list)[i] = v
	}
}

func marked() api.Row {
	return api.Row{Sign: bitsOf(7, mark), Some: bitsOf(9, mark, mark)}
}

func roomyBits(b api.Bits) api.Bits { return api.Bits{Len: b.Len, Words: room(b.Words, mark)} }

// roomy is a list of rows in memory of its own, each list with marked room behind it.
func roomy(list []api.Row) []api.Row {
	list = room(list, marked())
	for i, r := range list {
		list[i] = api.Row{Sign: roomyBits(r.Sign), Some: roomyBits(r.Some)}
	}
	return list
}

// words are all lists of words that a list of rows holds, in its spare room too.
func words(list []api.Row) [][]uint64 {
	var made [][]uint64
	for _, r := range all(list) {
		made = append(made, r.Sign.Words, r.Some.Words)
	}
	return made
}

// picture is all that a list of rows holds, the room behind each list too.
func picture(list []api.Row) []any {
	seen := []any{len(list), cap(list)}
	for _, r := range all(list) {
		seen = append(seen, r.Sign.Len, len(r.Sign.Words), slices.Clone(all(r.Sign.Words)))
		seen = append(seen, r.Some.Len, len(r.Some.Words), slices.Clone(all(r.Some.Words)))
	}
	return seen
}

// loud writes over all that a list of rows holds, the room behind each list too.
func loud(list []api.Row) {
	for _, l := range words(list) {
		over(l, 0xfefe)
	}
	over(list, api.Row{Sign: bitsOf(-5), Some: bitsOf(1, full)})
}

// gift is what a call may be handed.
type gift struct {
	what       string
	rows, cols []api.Row
	e          api.Errno
}

// gifts are rows and columns that are answered, and such as are refused.
func gifts() []gift {
	kind := refused()[0].r
	return []gift{
		{"nothing", nil, nil, api.OK},
		{"no rows", nil, good(4), api.OK},
		{"no columns", good(4), nil, api.OK},
		{"no places", make([]api.Row, 3), make([]api.Row, 6), api.OK},
		{"one place", written("+", "-", "0"), written("-", "+"), api.OK},
		{"many", good(5), packedAll(weights(10, 70, 8)), api.OK},
		{"many words", packedAll(weights(6, 640, 5)), packedAll(weights(9, 640, 6)), api.OK},
		{"a bad row", with(good(5), 4, kind), good(6), api.ErrKind},
		{"a bad column", good(5), with(good(6), 5, kind), api.ErrKind},
		{"another Len", good(5), with(good(6), 3, others()[2].r), api.ErrBits},
	}
}

// copied is an answer in memory of its own.
func copied(sums [][]int64) [][]int64 {
	made := make([][]int64, len(sums))
	for i, l := range sums {
		made[i] = slices.Clone(l)
	}
	return made
}

// TestArgumentsStay: what is handed in is neither changed nor kept, its spare room neither.
func TestArgumentsStay(t *testing.T) {
	for _, w := range append(someWays(), blocks(0, 1), strips(0)) {
		for _, g := range gifts() {
			rows, cols := roomy(g.rows), roomy(g.cols)
			wasRows, wasCols := picture(rows), picture(cols)
			sums, e := w.call(rows, cols)
			if !reflect.DeepEqual(picture(rows), wasRows) || !reflect.DeepEqual(picture(cols), wasCols) {
				t.Errorf("P11.4: %s, %s: the call changed what was handed in", w.what, g.what)
			}
			before := copied(sums)
			loud(rows)
			loud(cols)
			if !same(sums, before) {
				t.Errorf("P11.4: %s, %s: the answer lies in what was handed in", w.what, g.what)
			}
			if again, f := w.call(g.rows, g.cols); !same(again, before) || f != e {
				t.Errorf("P11.4: %s, %s: the same call without spare room answers otherwise", w.what, g.what)
			}
		}
	}
}

// TestAnswersAreNew: who writes into a list of an answer, and into the room behind it, changes no other list of it, no other answer and no argument.
func TestAnswersAreNew(t *testing.T) {
	for _, w := range someWays() {
		for _, g := range gifts() {
			rows, cols := roomy(g.rows), roomy(g.cols)
			wasRows, wasCols := picture(rows), picture(cols)
			first, e := w.call(rows, cols)
			if e != g.e {
				t.Errorf("P11.1: %s, %s: %d", w.what, g.what, e)
			}
			before := copied(first)
			for i := range before {
				sums, _ := w.call(rows, cols)
				other, _ := w.call(rows, cols)
				over(sums[i], 99)
				_ = append(sums[i], 98)
				sums[i] = slices.Clone(before[i])
				if !same(sums, before) {
					t.Errorf("P11.4: %s, %s: list %d shares memory with another of its answer", w.what, g.what, i)
				}
				if !same(other, before) || !same(first, before) {
					t.Errorf("P11.4: %s, %s: list %d shares memory with another answer", w.what, g.what, i)
				}
			}
			sums, _ := w.call(rows, cols)
			over(sums, []int64{97})
			_ = append(sums, []int64{96})
			if again, f := w.call(rows, cols); !same(again, before) || f != e || !same(first, before) {
				t.Errorf("P11.4: %s, %s: the same call again answers otherwise", w.what, g.what)
			}
			if !reflect.DeepEqual(picture(rows), wasRows) || !reflect.DeepEqual(picture(cols), wasCols) {
				t.Errorf("P11.4: %s, %s: writing into an answer changed what was handed in", w.what, g.what)
			}
		}
	}
}

// TestSharedArguments: the same rows may be handed in as rows and as columns, and lie in one memory.
func TestSharedArguments(t *testing.T) {
	lists := weights(9, 150, 2)
	is := product(lists, lists)
	for _, w := range allWays(5) {
		rows := roomy(packedAll(lists))
		was := picture(rows)
		answers(t, "P11.2: rows as columns", w, rows, rows, is)
		answers(t, "P11.2: one row as row and column", w, rows[1:2], rows[1:2], [][]int64{{150}})
		b := roomyBits(bitsOf(70, 0xff0f, 33))
		alone := api.Row{Sign: b, Some: b}
		answers(t, "P11.2: Sign and Some in one memory", w, []api.Row{alone, alone}, []api.Row{alone}, [][]int64{{14}, {14}})
		if !reflect.DeepEqual(picture(rows), was) || !slices.Equal(all(b.Words), []uint64{0xff0f, 33, mark, mark, mark}) {
			t.Errorf("P11.4: %s changed what was handed in", w.what)
		}
	}
}
