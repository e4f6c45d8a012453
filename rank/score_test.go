package rank_test

import (
	"fmt"
	"math"
	"slices"
	"strings"
	"testing"

	"heddle/api"
	"heddle/rank"
)

// full is how many answers a score may count.
const full = 1 << 62

func row(numbers ...int64) []int64 { return numbers }

func score(rows ...[]int64) api.Score { return api.Score{Table: rows} }

// square is a score of k outputs, each number of which is n.
func square(k int, n int64) api.Score {
	var s api.Score
	for range k {
		s.Table = append(s.Table, slices.Repeat(row(n), k))
	}
	return s
}

func same(a, b api.Score) bool {
	return slices.EqualFunc(a.Table, b.Table, func(a, b []int64) bool { return slices.Equal(a, b) })
}

// text tells a score, or, of a large one, how many rows it has.
func text(s api.Score) string {
	if len(s.Table) <= 4 {
		return fmt.Sprint(s.Table)
	}
	return fmt.Sprintf("%d rows", len(s.Table))
}

func newRefused(t *testing.T, k int) {
	t.Helper()
	if s, e := rank.New(k); e != api.ErrArg || len(s.Table) != 0 {
		t.Errorf("P24.3: New(%d) = %s, %d, not ErrArg", k, text(s), e)
	}
}

// addIs asks Add, and whether the score that is handed in stays as it is.
func addIs(t *testing.T, s api.Score, right, told int, want api.Score) {
	t.Helper()
	was := copied(s)
	if got, e := rank.Add(s, right, told); e != api.OK || !same(got, want) {
		t.Errorf("P24.4: Add(%s; %d, %d) = %s, %d, not %s", text(s), right, told, text(got), e, text(want))
	}
	if !same(s, was) {
		t.Errorf("P24.4: Add(%d, %d) changed a score: %s, before %s", right, told, text(s), text(was))
	}
}

func addRefused(t *testing.T, s api.Score, right, told int, want api.Errno) {
	t.Helper()
	was := copied(s)
	if got, e := rank.Add(s, right, told); e != want || len(got.Table) != 0 {
		t.Errorf("P24.4: Add(%s; %d, %d) = %s, %d, not %d", text(s), right, told, text(got), e, want)
	}
	if !same(s, was) {
		t.Errorf("P0.2: Add(%d, %d), refused, changed a score: %s, before %s", right, told, text(s), text(was))
	}
}

func rightIs(t *testing.T, s api.Score, right, all int64) {
	t.Helper()
	if r, a, e := rank.Right(s); r != right || a != all || e != api.OK {
		t.Errorf("P24.5: Right(%s) = %d, %d, %d, not %d, %d", text(s), r, a, e, right, all)
	}
}

func showIs(t *testing.T, s api.Score, want string) {
	t.Helper()
	if got, e := rank.Show(s); got != want || e != api.OK {
		t.Errorf("P24.6: Show(%s) = %.80q, %d, not %.80q", text(s), got, e, want)
	}
}

// copied is the score in memory of its own.
func copied(s api.Score) api.Score {
	table := slices.Clone(s.Table)
	for i := range table {
		table[i] = slices.Clone(table[i])
	}
	return api.Score{Table: table}
}

// with is a copy of the score, with another number at one place.
func with(s api.Score, i, j int, n int64) api.Score {
	s = copied(s)
	s.Table[i][j] = n
	return s
}

// badScores are such as may not be.
func badScores() map[string]api.Score {
	many := square(256, 1<<46) // these are 2^62 together
	bad := map[string]api.Score{
		"no rows":                         {},
		"an empty table":                  {Table: [][]int64{}},
		"a row without numbers":           score(nil),
		"257 rows":                        square(257, 0),
		"258 rows without numbers":        {Table: make([][]int64, 258)},
		"a row too few":                   score(row(0, 0)),
		"a row too many":                  score(row(0), row(0)),
		"a first row too short":           score(row(0), row(0, 0)),
		"a last row too short":            score(row(0, 0), row(0)),
		"a nil row":                       score(row(0, 0), nil),
		"a first row too long":            score(row(0, 0, 0), row(0, 0)),
		"a last row too long":             score(row(0, 0), row(0, 0, 0)),
		"rows too short and too long":     score(row(0), row(0, 0, 0)),
		"a middle row of 255 in 256":      {Table: slices.Concat(square(256, 0).Table[:100], [][]int64{make([]int64, 255)}, square(256, 0).Table[:155])},
		"2^62 + 1":                        score(row(full + 1)),
		"the greatest number of 64 bits":  score(row(math.MaxInt64)),
		"the least number of 64 bits":     score(row(math.MinInt64)),
		"2^62 and 1 in a row":             score(row(full, 1), row(0, 0)),
		"2^62 and 1 in two rows":          score(row(full, 0), row(0, 1)),
		"1 and 2^62 in two rows":          score(row(0, 1), row(full, 0)),
		"2^62 twice":                      score(row(full, 0), row(0, full)),
		"2^62 four times, 0 in 64 bits":   square(2, full),
		"2^62 - 1 twice":                  score(row(full-1, full-1), row(0, 0)),
		"2^61 twice and 1":                score(row(full/2, 0), row(1, full/2)),
		"2^61 three times":                score(row(full/2, full/2), row(full/2, 0)),
		"2^60 nine times":                 square(3, full/4),
		"2^60 sixteen times, 0 in 64":     square(4, full/4),
		"2^63 - 1 twice and 2, 0 in 64":   score(row(math.MaxInt64, math.MaxInt64), row(2, 0)),
		"2^63 - 1 and 1, -2^63 in 64":     score(row(math.MaxInt64, 1), row(0, 0)),
		"256 rows of 2^48, 0 in 64 bits":  square(256, 1<<48),
		"256 rows of 2^62 - 1":            square(256, full-1),
		"256 rows of 2^46, one with more": with(many, 255, 255, 1<<46+1),
		"2^62 ahead of 256 rows of 2^46":  with(many, 0, 0, full),
		"1 and -1":                        score(row(1, -1), row(0, 0)),
		"2^62 and -1":                     score(row(full, 0), row(0, -1)),
		"2^62 + 1 and -1":                 score(row(full+1, 0), row(0, -1)),
		"-1 and 2^62 + 1":                 score(row(-1, 0), row(0, full+1)),
	}
	for i := range 3 {
		for j := range 3 {
			for _, n := range []int64{-1, math.MinInt64, full + 1, math.MaxInt64} {
				bad[fmt.Sprintf("%d at %d, %d", n, i, j)] = with(square(3, 0), i, j, n)
				bad[fmt.Sprintf("%d at %d, %d, else 5", n, i, j)] = with(square(3, 5), i, j, n)
			}
		}
	}
	return bad
}

// outside are no outputs of a score of k.
func outside(k int) []int {
	return []int{-1, -2, math.MinInt, k, k + 1, 256, 257, 1 << 32, -1 << 32, math.MaxInt}
}

func TestNew(t *testing.T) {
	for _, k := range []int{0, -1, -2, -256, math.MinInt, 257, 258, 4096, 1 << 32, 1<<32 + 1, math.MaxInt} {
		newRefused(t, k)
	}
	for k := 1; k <= 256; k++ {
		s, e := rank.New(k)
		if e != api.OK || !same(s, square(k, 0)) {
			t.Errorf("P24.3: New(%d) = %s, %d", k, text(s), e)
		}
	}
}

// TestScoresThatMayNotBe: all calls refuse them, whatever else they are given.
func TestScoresThatMayNotBe(t *testing.T) {
	for what, s := range badScores() {
		for _, n := range []int{0, 1, -1, len(s.Table), math.MaxInt} {
			addRefused(t, s, 0, n, api.ErrArg)
			addRefused(t, s, n, 0, api.ErrArg)
			addRefused(t, s, n, n, api.ErrArg)
		}
		if r, all, e := rank.Right(s); r != 0 || all != 0 || e != api.ErrArg {
			t.Errorf("P24.5: %s: Right = %d, %d, %d, not ErrArg", what, r, all, e)
		}
		if w, e := rank.Show(s); w != "" || e != api.ErrArg {
			t.Errorf("P24.6: %s: Show = %.80q, %d, not ErrArg", what, w, e)
		}
	}
}

// TestAdd: each place of some scores, and what is beside them.
func TestAdd(t *testing.T) {
	for _, k := range []int{1, 2, 3, 5} {
		s := square(k, 0)
		for i := range k {
			for j := range k {
				s.Table[i][j] = int64(10*i + j)
			}
		}
		for i := range k {
			for j := range k {
				addIs(t, s, i, j, with(s, i, j, int64(10*i+j+1)))
			}
			for _, n := range outside(k) {
				addRefused(t, s, i, n, api.ErrArg)
				addRefused(t, s, n, i, api.ErrArg)
				addRefused(t, s, n, n, api.ErrArg)
			}
		}
	}
	large := square(256, 3)
	for _, x := range [][2]int{{0, 0}, {0, 255}, {255, 0}, {255, 255}, {100, 7}} {
		addIs(t, large, x[0], x[1], with(large, x[0], x[1], 4))
	}
	for _, n := range []int{-1, 256, math.MaxInt, math.MinInt} {
		addRefused(t, large, n, 0, api.ErrArg)
		addRefused(t, large, 0, n, api.ErrArg)
	}
}

// TestAddAtTheEnd: the last answer that a score counts, and the one behind it; what may not be is told ahead of that.
func TestAddAtTheEnd(t *testing.T) {
	addIs(t, score(row(full-1)), 0, 0, score(row(full)))
	addIs(t, score(row(full-1, 0), row(0, 0)), 1, 0, score(row(full-1, 0), row(1, 0)))
	addIs(t, score(row(full/2, 0), row(0, full/2-1)), 0, 1, score(row(full/2, 1), row(0, full/2-1)))
	addIs(t, with(square(256, 1<<46), 9, 9, 1<<46-1), 9, 9, square(256, 1<<46))
	for _, s := range []api.Score{
		score(row(full)),
		score(row(full, 0), row(0, 0)),
		score(row(0, 0), row(0, full)),
		score(row(1, 0), row(0, full-1)),
		score(row(full/2, 0), row(full/2, 0)),
		square(2, full/4),
		square(256, 1<<46),
	} {
		last := len(s.Table) - 1
		addRefused(t, s, 0, 0, api.ErrFull)
		addRefused(t, s, last, 0, api.ErrFull)
		addRefused(t, s, 0, last, api.ErrFull)
		addRefused(t, s, last, last, api.ErrFull)
		for _, n := range outside(256) {
			addRefused(t, s, n, 0, api.ErrArg)
			addRefused(t, s, 0, n, api.ErrArg)
		}
		addRefused(t, s, last+1, 0, api.ErrArg)
		addRefused(t, s, 0, last+1, api.ErrArg)
	}
}

// TestAnyOrder: answers added in any order come to the same score; refused ones between them change nothing.
func TestAnyOrder(t *testing.T) {
	const k = 4
	d := dice(26)
	var answers [][2]int
	want := square(k, 0)
	for range 60 {
		x := [2]int{d.roll(k), d.roll(k)}
		answers = append(answers, x)
		want.Table[x[0]][x[1]]++
	}
	for round := range 30 {
		for i := len(answers) - 1; i > 0; i-- {
			j := d.roll(i + 1)
			answers[i], answers[j] = answers[j], answers[i]
		}
		s, e := rank.New(k)
		for _, x := range answers {
			if e == api.OK {
				s, e = rank.Add(s, x[0], x[1])
				addRefused(t, s, x[0], k, api.ErrArg)
			}
		}
		if e != api.OK || !same(s, want) {
			t.Fatalf("P24.4: order %d: %s, %d, not %s", round, text(s), e, text(want))
		}
	}
	rightIs(t, want, want.Table[0][0]+want.Table[1][1]+want.Table[2][2]+want.Table[3][3], 60)
}

func TestRight(t *testing.T) {
	rightIs(t, score(row(0)), 0, 0)
	rightIs(t, score(row(9)), 9, 9)
	rightIs(t, score(row(full)), full, full)
	rightIs(t, score(row(full, 0), row(0, 0)), full, full)
	rightIs(t, score(row(0, full), row(0, 0)), 0, full)
	rightIs(t, score(row(full/2, 0), row(0, full/2)), full, full)
	rightIs(t, score(row(0, full/2), row(full/2, 0)), 0, full)
	rightIs(t, score(row(full-1, 0), row(1, 0)), full-1, full)
	rightIs(t, score(row(1, 10, 100), row(1000, 10000, 100000), row(1000000, 10000000, 100000000)), 100010001, 111111111)
	rightIs(t, square(256, 0), 0, 0)
	rightIs(t, square(256, 2), 512, 131072)
	rightIs(t, square(256, 1<<46), 1<<54, full)
	rightIs(t, with(square(256, 0), 255, 255, 7), 7, 7)
	rightIs(t, with(square(256, 0), 255, 0, 7), 0, 7)
}

func TestShow(t *testing.T) {
	showIs(t, score(row(0)), "0\n0/0\n")
	showIs(t, score(row(7)), "7\n7/7\n")
	showIs(t, score(row(full)), "4611686018427387904\n4611686018427387904/4611686018427387904\n")
	showIs(t, score(row(0, 4611686018427387904), row(0, 0)), "0 4611686018427387904\n0 0\n0/4611686018427387904\n")
	showIs(t, score(row(full-1, 0), row(1, 0)), "4611686018427387903 0\n1 0\n4611686018427387903/4611686018427387904\n")
	showIs(t, score(row(1, 10, 100), row(20, 0, 3), row(0, 0, 1000)), "1 10 100\n20 0 3\n0 0 1000\n1001/1134\n")
	line := strings.Repeat("5 ", 255) + "5\n"
	showIs(t, square(256, 5), strings.Repeat(line, 256)+"1280/327680\n")
	line = strings.Repeat("70368744177664 ", 255) + "70368744177664\n"
	showIs(t, square(256, 1<<46), strings.Repeat(line, 256)+"18014398509481984/4611686018427387904\n")
}
