package rank_test

import (
	"reflect"
	"slices"
	"testing"

	"heddle/api"
	"heddle/rank"
)

// room is a list in memory of its own, with two marked elements in the room behind it.
func room[T any](list []T, marked T) []T {
	return slices.Clip(append(slices.Clone(list), marked, marked))[:len(list)]
}

// whole is a list with the room behind it.
func whole[T any](list []T) []T { return list[:cap(list)] }

// over writes v over a list and the room behind it.
func over[T any](list []T, v T) {
	for i := range whole(list) {
		whole(list)[i] = v
	}
}

// roomy is a copy of the score, whose lists all have marked room behind them.
func roomy(s api.Score) api.Score {
	s = copied(s)
	for i, r := range s.Table {
		s.Table[i] = room(r, 85)
	}
	return api.Score{Table: room(s.Table, row(85))}
}

// picture is all that a score holds, the room behind its lists too.
func picture(s api.Score) (seen [][]int64) {
	for _, r := range whole(s.Table) {
		seen = append(seen, slices.Clone(whole(r)))
	}
	return seen
}

// spoil writes over all that a score holds.
func spoil(s api.Score) {
	for _, r := range s.Table {
		over(r, -9)
	}
	over(s.Table, row(-8))
}

// scores are such as may be, and such as may not.
func scores() []api.Score {
	return []api.Score{
		{},
		score(row(0)),
		score(row(full)),
		square(2, 0),
		square(2, full/4),
		square(2, full),
		score(row(3, 1), row(0, 2)),
		score(row(3, 1), row(0)),
		score(row(3, 1), row(0, -1)),
		square(17, 6),
		square(256, 1),
		square(257, 1),
	}
}

// answer is what the calls tell of a score.
type answer struct {
	more       api.Score
	right, all int64
	text       string
	es         [3]api.Errno
}

func ask(s api.Score) (a answer) {
	a.more, a.es[0] = rank.Add(s, 0, len(s.Table)-1)
	a.right, a.all, a.es[1] = rank.Right(s)
	a.text, a.es[2] = rank.Show(s)
	return a
}

func (a answer) copied() answer {
	a.more = copied(a.more)
	return a
}

func (a answer) same(b answer) bool {
	return same(a.more, b.more) && a.right == b.right && a.all == b.all && a.text == b.text && a.es == b.es
}

// TestNumbersStay: the numbers that are handed in are neither changed nor kept, their spare room neither.
func TestNumbersStay(t *testing.T) {
	d := dice(27)
	for _, plainly := range [][]int64{nil, {4}, {1, 2, 3}, {3, 7, 7, -1}, d.list(100, 3)} {
		for _, n := range []int{-1, 0, 1, 2, len(plainly), len(plainly) + 2} {
			l := room(plainly, 1<<40)
			was := slices.Clone(whole(l))
			arg := rank.Arg(l)
			top, e := rank.Top(l, n)
			if !slices.Equal(whole(l), was) {
				t.Errorf("P24.7: Arg or Top(%d) changed what was handed in: %v, before %v", n, whole(l), was)
			}
			want := slices.Clone(top)
			over(l, 1<<41)
			if !slices.Equal(top, want) {
				t.Errorf("P24.7: Top(%d) changed with what was handed in: %v, before %v", n, top, want)
			}
			again, f := rank.Top(plainly, n)
			if rank.Arg(plainly) != arg || f != e || !slices.Equal(again, want) {
				t.Errorf("P0.5: %v: first %d, %v, %d, then %d, %v, %d", plainly, arg, want, e, rank.Arg(plainly), again, f)
			}
			over(top, place(-3, -4))
			_ = append(top, place(-5, -6))
			if !slices.Equal(again, want) {
				t.Errorf("P24.7: two answers of Top(%d) share memory", n)
			}
			if last, _ := rank.Top(plainly, n); !slices.Equal(last, want) {
				t.Errorf("P24.7: Top(%d) = %v, once another answer was written over", n, last)
			}
		}
	}
}

// TestScoresStay: a score that is handed in is neither changed nor kept, its spare room neither.
func TestScoresStay(t *testing.T) {
	for _, plainly := range scores() {
		s := roomy(plainly)
		was := picture(s)
		a := ask(s)
		if !reflect.DeepEqual(picture(s), was) {
			t.Errorf("P24.7: %s: what was handed in changed", text(plainly))
		}
		want := a.copied()
		spoil(s)
		if !a.same(want) {
			t.Errorf("P24.7: %s: an answer lies in what was handed in", text(plainly))
		}
		if again := ask(plainly); !again.same(want) {
			t.Errorf("P0.5: %s: first %v, then %v", text(plainly), want, again)
		}
	}
}

// made are scores that New and Add answer, each made anew by each call.
func made() map[string]func() api.Score {
	calls := map[string]func() api.Score{}
	for _, k := range []int{1, 2, 3, 17, 256} {
		calls["New of "+text(square(k, 0))] = func() api.Score {
			s, _ := rank.New(k)
			return s
		}
		s := roomy(square(k, 5))
		calls["Add to "+text(s)] = func() api.Score {
			more, _ := rank.Add(s, k-1, 0)
			return more
		}
	}
	return calls
}

// TestAnswersAreNew: who writes into a row of an answer, and into the room behind it, changes no other row of it and no other answer.
func TestAnswersAreNew(t *testing.T) {
	for what, call := range made() {
		want := copied(call())
		if len(want.Table) == 0 {
			t.Fatalf("P24.3, P24.4: %s is refused", what)
		}
		other := call()
		for i := range want.Table {
			mine := call()
			over(mine.Table[i], 77)
			_ = append(mine.Table[i], 78)
			_ = append(mine.Table[i][:0], 79)
			for j, r := range mine.Table {
				if j != i && !slices.Equal(r, want.Table[j]) {
					t.Fatalf("P24.7: %s: the rows %d and %d share memory", what, i, j)
				}
			}
			over(mine.Table, nil)
		}
		if !same(other, want) || !same(call(), want) {
			t.Errorf("P24.7: %s: two answers share memory", what)
		}
	}
}

// TestRowsOfOneMemory: a score whose rows are one list, or lie one behind the other, is counted row by row.
func TestRowsOfOneMemory(t *testing.T) {
	r := row(4, 6)
	addIs(t, score(r, r), 0, 1, score(row(4, 7), row(4, 6)))
	addIs(t, score(r, r), 1, 0, score(row(4, 6), row(5, 6)))
	rightIs(t, score(r, r), 10, 20)
	showIs(t, score(r, r), "4 6\n4 6\n10/20\n")
	line := row(1, 2, 3, 4)
	s := score(line[:2], line[2:])
	addIs(t, s, 0, 1, score(row(1, 3), row(3, 4)))
	a, _ := rank.Add(s, 1, 1)
	_ = append(a.Table[0], 99)
	if !same(a, score(row(1, 2), row(3, 5))) || !slices.Equal(line, row(1, 2, 3, 4)) {
		t.Errorf("P24.7: rows one behind the other: %s, %v", text(a), line)
	}
}

// TestNilAndEmpty: lists without elements are the same as nil.
func TestNilAndEmpty(t *testing.T) {
	argIs(t, rank.Arg(nil), []int64{}...)
	for _, n := range []int{-1, 0, 3} {
		a, e := rank.Top(nil, n)
		b, f := rank.Top([]int64{}, n)
		if len(a) != 0 || len(b) != 0 || e != f {
			t.Errorf("P0.4: Top(%d) of nil = %v, %d, of an empty list %v, %d", n, a, e, b, f)
		}
	}
	for _, pair := range [][2]api.Score{
		{{}, {Table: [][]int64{}}},
		{score(nil), score(row())},
		{score(row(1, 2), nil), score(row(1, 2), row())},
	} {
		if a, b := ask(pair[0]), ask(pair[1]); !a.same(b) {
			t.Errorf("P0.4: of nil %v, of an empty list %v", a, b)
		}
	}
}
