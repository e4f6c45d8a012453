package rank_test

import (
	"math"
	"testing"

	"heddle/api"
	"heddle/rank"
)

// TestExamplesOfOrder: the chapter's.
func TestExamplesOfOrder(t *testing.T) {
	argIs(t, 1, 3, 7, 7)
	argIs(t, -1)
	argIs(t, 0, math.MinInt64)
	topIs(t, []int64{3, 7, 7, -1}, 3, place(1, 7), place(2, 7), place(0, 3))
	topIs(t, []int64{3, 7}, 9, place(1, 7), place(0, 3))
	topIs(t, []int64{3}, 0)
	topRefused(t, []int64{3}, -1)
}

// TestExamplesOfScores: the chapter's.
func TestExamplesOfScores(t *testing.T) {
	newRefused(t, 0)
	newRefused(t, 257)
	two, e := rank.New(2)
	if e != api.OK || !same(two, score(row(0, 0), row(0, 0))) {
		t.Fatalf("P24.3: New(2) = %v, %d", two, e)
	}
	addIs(t, two, 1, 0, score(row(0, 0), row(1, 0)))
	addRefused(t, two, 2, 0, api.ErrArg)
	addRefused(t, score(row(0, 0), row(0)), 0, 0, api.ErrArg)
	addRefused(t, score(row(full, 0), row(0, 0)), 0, 0, api.ErrFull)
	rightIs(t, score(row(3, 1), row(0, 2)), 5, 6)
	showIs(t, score(row(3, 1), row(0, 2)), "3 1\n0 2\n5/6\n")
}
