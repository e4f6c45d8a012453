package patch_test

import (
	"slices"
	"testing"

	"heddle/api"
	"heddle/patch"
)

// small is the chapter's cube of 2 2 1 with 1, -1, 1, 1.
var small = api.Cube{Shape: api.Shape{H: 2, W: 2, C: 1}, Words: []uint64{1, 0, 1, 1}}

// line is a row with these words.
func line(sign, some []uint64) api.Row {
	return api.Row{Sign: bitsOf(64*len(sign), sign...), Some: bitsOf(64*len(some), some...)}
}

// wantFirst fails unless See tells so many patches of that shape, and that first one, which is answered.
func wantFirst(t *testing.T, w api.Window, border, many int, s api.Shape, first api.Row) api.Row {
	t.Helper()
	l, shape, e := patch.See(small, w, border)
	if e != api.OK || len(l) != many || shape != s || !sameRow(l[0], first) {
		t.Fatalf("P13.1: See(c, %+v, %d) = %v, %v, %d", w, border, l, shape, e)
	}
	return l[0]
}

// TestExamplesOfSee: the chapter's.
func TestExamplesOfSee(t *testing.T) {
	wantFirst(t, win(2, 2, 1, 1), 0, 1, shapeOf(1, 1, 1), line([]uint64{1, 0, 1, 1}, []uint64{1, 1, 1, 1}))
	wantFirst(t, win(1, 1, 1, 2), 0, 2, shapeOf(2, 1, 1), line([]uint64{1}, []uint64{1}))
	l, _, _ := patch.See(small, win(1, 1, 1, 2), 0)
	if !sameRow(l[1], line([]uint64{1}, []uint64{1})) {
		t.Errorf("P13.1: See(c, window 1 1, steps 1 2): the second is %v", l[1])
	}
	edged := win(2, 2, 1, 1, 1, 1, 0, 0)
	wantFirst(t, edged, 0, 4, shapeOf(2, 2, 1), line([]uint64{0, 0, 0, 1}, []uint64{0, 0, 0, 1}))
	wantFirst(t, edged, 1, 4, shapeOf(2, 2, 1), line([]uint64{1, 1, 1, 1}, []uint64{1, 1, 1, 1}))
	wantFirst(t, edged, -1, 4, shapeOf(2, 2, 1), line([]uint64{0, 0, 0, 1}, []uint64{1, 1, 1, 1}))
	for _, x := range []struct {
		w      api.Window
		border int
		e      api.Errno
	}{{win(3, 3, 1, 1), 0, api.ErrFit}, {win(16, 1, 1, 1), 0, api.ErrWindow}, {win(1, 1, 1, 1), 2, api.ErrWindow}} {
		l, s, e := patch.See(small, x.w, x.border)
		noSight(t, "an example", l, s, e, x.e)
	}
}

// TestExamplesOfRows: the chapter's of Spread and Lost.
func TestExamplesOfRows(t *testing.T) {
	r, e := patch.Spread(1, 1, -1, 0, 1)
	wantRow(t, "P13.3: Spread(1, 1, -1, 0, 1)", r, e, line([]uint64{1, 0, 0, 1}, []uint64{1, 1, 0, 1}))
	wide, e := patch.Spread(65, slices.Repeat([]int8{1}, 65)...)
	wantRow(t, "P13.3: Spread(65, 65 ones)", wide, e, line([]uint64{full, 1}, []uint64{full, 1}))
	bad, e := patch.Spread(2, 1, 1, 1)
	noRow(t, "(2, 1, 1, 1)", bad, e, api.ErrFit)
	bad, e = patch.Spread(2)
	noRow(t, "(2)", bad, e, api.ErrFit)
	bad, e = patch.Spread(0, 1)
	noRow(t, "(0, 1)", bad, e, api.ErrArg)
	bad, e = patch.Spread(1, 2)
	noRow(t, "(1, 2)", bad, e, api.ErrWeight)

	seen := wantFirst(t, win(2, 2, 1, 1, 1, 1, 0, 0), 0, 4, shapeOf(2, 2, 1), line([]uint64{0, 0, 0, 1}, []uint64{0, 0, 0, 1}))
	n, e := patch.Lost(r, seen)
	wantSum(t, "P13.2: Lost(Spread(1, 1, -1, 0, 1), the first patch)", n, e, 0)
	ones, _ := patch.Spread(1, 1, 1, 1, 1)
	n, e = patch.Lost(ones, seen)
	wantSum(t, "P13.2: Lost(Spread(1, 1, 1, 1, 1), that patch)", n, e, 3)
}
