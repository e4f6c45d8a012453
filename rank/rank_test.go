package rank_test

import (
	"fmt"
	"math"
	"slices"
	"testing"

	"heddle/api"
	"heddle/rank"
)

func place(i int, n int64) api.Ranked { return api.Ranked{Index: i, Logit: n} }

// short is a list, or, of a long one, its front.
func short[T any](l []T) string {
	if len(l) <= 12 {
		return fmt.Sprint(l)
	}
	return fmt.Sprintf("%v and %d more", l[:12], len(l)-12)
}

func argIs(t *testing.T, want int, l ...int64) {
	t.Helper()
	if got := rank.Arg(l); got != want {
		t.Errorf("P24.1: Arg(%s) = %d, not %d", short(l), got, want)
	}
}

func topIs(t *testing.T, l []int64, n int, want ...api.Ranked) {
	t.Helper()
	if got, e := rank.Top(l, n); e != api.OK || !slices.Equal(got, want) {
		t.Errorf("P24.2: Top(%s; %d) = %s, %d, not %s", short(l), n, short(got), e, short(want))
	}
}

func topRefused(t *testing.T, l []int64, n int) {
	t.Helper()
	if got, e := rank.Top(l, n); e != api.ErrArg || len(got) != 0 {
		t.Errorf("P24.2: Top(%s; %d) = %s, %d, not ErrArg", short(l), n, short(got), e)
	}
}

// meant is what Top tells of a list, reckoned otherwise: a place stands behind as many as are ahead of it.
func meant(l []int64, n int) []api.Ranked {
	all := make([]api.Ranked, len(l))
	for i, mine := range l {
		at := 0
		for j, other := range l {
			if other > mine || other == mine && j < i {
				at++
			}
		}
		all[at] = place(i, mine)
	}
	if n > len(all) {
		n = len(all)
	}
	return all[:n]
}

// holds asks Arg and Top of a list, Top with the numbers that are handed in, and holds them against what is meant.
func holds(t *testing.T, l []int64, numbers ...int) {
	t.Helper()
	all := meant(l, len(l))
	if len(l) > 0 {
		argIs(t, all[0].Index, l...)
	}
	for _, n := range numbers {
		topIs(t, l, n, all[:min(n, len(all))]...)
	}
}

// lists goes through all lists of that length whose numbers are some of those.
func lists(length int, of []int64, yield func(l []int64)) {
	l := make([]int64, length)
	var fill func(i int)
	fill = func(i int) {
		if i == length {
			yield(slices.Clone(l))
			return
		}
		for _, n := range of {
			l[i] = n
			fill(i + 1)
		}
	}
	fill(0)
}

// dice are numbers that look like chance, always the same ones.
type dice uint64

func (d *dice) roll(below int) int {
	*d = *d*6364136223846793005 + 1442695040888963407
	return int(uint64(*d)>>33) % below
}

// list is a list of numbers of 64 bits with either sign; the fewer bits are left, the more of them are the same.
func (d *dice) list(length, bits int) []int64 {
	l := make([]int64, length)
	for i := range l {
		l[i] = (int64(d.roll(1<<31))<<33 ^ int64(d.roll(1<<31))<<2) >> (64 - bits)
	}
	return l
}

func TestArg(t *testing.T) {
	least, most := int64(math.MinInt64), int64(math.MaxInt64)
	argIs(t, -1)
	argIs(t, -1, []int64{}...)
	for _, n := range []int64{0, 1, -1, least, most} {
		argIs(t, 0, n)
		argIs(t, 0, n, n)
		argIs(t, 0, n, n, n, n)
	}
	argIs(t, 1, least, most)
	argIs(t, 0, most, least)
	argIs(t, 1, least, least+1, least)
	argIs(t, 2, most-1, least, most)
	argIs(t, 1, most-1, most, most)
	argIs(t, 1, -1, 0, 0, -1)
	argIs(t, 2, -9, -3, -2, -2, -7)
	argIs(t, 3, 1, 5, 5, 6)
	// A difference of these leaves 64 bits.
	argIs(t, 1, least, 1)
	argIs(t, 0, 1, least)
	argIs(t, 1, -2, most)
}

func TestTopRefused(t *testing.T) {
	for _, n := range []int{-1, -2, -1 << 32, math.MinInt} {
		for _, l := range [][]int64{nil, {}, {0}, {3, 7, 7, -1}} {
			topRefused(t, l, n)
		}
	}
}

func TestTop(t *testing.T) {
	for _, n := range []int{0, 1, 2, 1 << 32, math.MaxInt} {
		topIs(t, nil, n)
		topIs(t, []int64{}, n)
	}
	holds(t, []int64{4}, 0, 1, 2, math.MaxInt)
	holds(t, []int64{1, 2, 3, 4, 5}, 0, 1, 2, 3, 4, 5, 6, math.MaxInt)
	holds(t, []int64{5, 4, 3, 2, 1}, 0, 1, 2, 3, 4, 5, 6, math.MaxInt)
	topIs(t, []int64{6, 6, 6, 6}, 3, place(0, 6), place(1, 6), place(2, 6))
	topIs(t, []int64{math.MinInt64, math.MaxInt64, 0, math.MinInt64, math.MaxInt64}, 9,
		place(1, math.MaxInt64), place(4, math.MaxInt64), place(2, 0), place(0, math.MinInt64), place(3, math.MinInt64))
	topIs(t, []int64{math.MinInt64, 1}, 1, place(1, 1))
	topIs(t, []int64{math.MinInt64 + 1, math.MaxInt64 - 1, math.MaxInt64, math.MinInt64}, 4,
		place(2, math.MaxInt64), place(1, math.MaxInt64-1), place(0, math.MinInt64+1), place(3, math.MinInt64))
}

// TestAllShortLists: every list of up to five numbers, some at both ends of 64 bits, with every number of places.
func TestAllShortLists(t *testing.T) {
	for length := range 6 {
		lists(length, []int64{math.MinInt64, -1, 0, math.MaxInt64}, func(l []int64) {
			for n := range length + 3 {
				holds(t, l, n)
			}
			topRefused(t, l, -1)
		})
	}
}

// TestLongLists: in order, in falling order, all the same, few that differ, many that differ.
func TestLongLists(t *testing.T) {
	d := dice(24)
	for _, length := range []int{11, 12, 13, 50, 51, 300, 1000} {
		rising, falling, same := make([]int64, length), make([]int64, length), make([]int64, length)
		for i := range length {
			rising[i], falling[i], same[i] = int64(i), int64(-i), -7
		}
		for _, l := range [][]int64{rising, falling, same, d.list(length, 1), d.list(length, 2), d.list(length, 4), d.list(length, 64)} {
			holds(t, l, 0, 1, 2, 5, length/2, length-1, length, length+1, math.MaxInt)
		}
	}
}

// TestShorterIsTheFront: what Top tells of fewer places is the front of what it tells of more; the first one is Arg's.
func TestShorterIsTheFront(t *testing.T) {
	d := dice(25)
	for range 100 {
		l := d.list(1+d.roll(60), 1+d.roll(64))
		longer, e := rank.Top(l, len(l)+d.roll(2))
		if e != api.OK || len(longer) != len(l) || longer[0] != place(rank.Arg(l), l[rank.Arg(l)]) {
			t.Fatalf("P24.2: Top(%v) = %v, %d; Arg %d", l, longer, e, rank.Arg(l))
		}
		for n := len(l); n >= 0; n-- {
			shorter, e := rank.Top(l, n)
			if e != api.OK || len(shorter) != n || !slices.Equal(shorter, longer[:n]) {
				t.Fatalf("P24.2: Top(%v; %d) = %v, %d, not the front of %v", l, n, shorter, e, longer)
			}
			longer = shorter
		}
	}
}

// TestManyNumbers: a long list takes no time with the square of its length.
func TestManyNumbers(t *testing.T) {
	const length = 1 << 20
	l := make([]int64, length)
	for i := range l {
		l[i] = int64(i / 2)
	}
	argIs(t, length-2, l...)
	topIs(t, l, 3, place(length-2, length/2-1), place(length-1, length/2-1), place(length-4, length/2-2))
	got, e := rank.Top(l, length)
	if e != api.OK || len(got) != length || got[length-2] != place(0, 0) || got[length-1] != place(1, 0) {
		t.Errorf("P24.2: Top of %d numbers: %d places, %d", length, len(got), e)
	}
}
