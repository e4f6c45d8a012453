package dot_test

import (
	"slices"
	"testing"

	"heddle/api"
	"heddle/dot"
)

// TestExampleRows: the chapter's examples of rows.
func TestExampleRows(t *testing.T) {
	r, e := dot.Pack(1, 0, -1, 1)
	if e != api.OK || !sameRow(r, pair(4, 9, 13)) {
		t.Errorf("P10.2: Pack(1, 0, -1, 1) = %v, %d", r, e)
	}
	if w, e := dot.Unpack(r); e != api.OK || !slices.Equal(w, []int8{1, 0, -1, 1}) {
		t.Errorf("P10.2: Unpack = %v, %d", w, e)
	}
	for _, w := range [][]int8{{2}, {1, -2, 0}} {
		if r, e := dot.Pack(w...); e != api.ErrWeight || !sameRow(r, api.Row{}) {
			t.Errorf("P10.2: Pack(%v) = %v, %d", w, r, e)
		}
	}
	for what, r := range map[string]api.Row{
		"lengths 4 and 5": {Sign: plain(4, 9), Some: plain(5, 13)}, "a word behind the end": {Sign: plain(4, 9, 0), Some: plain(4, 13)}, "a Len below 0": {Sign: plain(-1), Some: plain(-1)},
	} {
		if e := dot.Check(r); e != api.ErrBits {
			t.Errorf("P10.1: Check of %s = %d", what, e)
		}
	}
}

// TestExampleSums: the chapter's examples of sums.
func TestExampleSums(t *testing.T) {
	r := pair(4, 9, 13)
	for word, is := range map[uint64]int64{1: 1, 0: -1, 13: 1} {
		s, e := dot.Signs(r, plain(4, word))
		wantSum(t, "P10.3: Signs", s, e, is)
	}
	s, e := dot.Signs(r, plain(5, 1))
	refusedSum(t, "P10.3: Signs(r, Len 5, word 1)", s, e, api.ErrBits)
	s, e = dot.Signs(r, plain(4, 16))
	refusedSum(t, "P10.3: Signs(r, Len 4, word 16)", s, e, api.ErrBits)
	s, e = dot.Signs(pair(4, 2, 1), plain(4, 1))
	refusedSum(t, "P10.3: Signs of Sign alone", s, e, api.ErrKind)
	x, _ := dot.Pack(0, 1, 1, -1)
	s, e = dot.Some(r, x)
	wantSum(t, "P10.4: Some", s, e, -2)
	none, _ := dot.Pack()
	s, e = dot.Signs(none, plain(0))
	wantSum(t, "P10.3: Signs of nothing", s, e, 0)
}

// TestExamplePlanes: the chapter's examples of planes.
func TestExamplePlanes(t *testing.T) {
	planes, e := dot.Planes(-1, 1, -128)
	for p, word := range []uint64{3, 1, 1, 1, 1, 1, 1, 5} {
		if e != api.OK || !same(planes[p], plain(3, word)) {
			t.Errorf("P10.5: plane %d of -1, 1, -128 = %v, %d", p, planes[p], e)
		}
	}
	four, _ := dot.Planes(5, 9, -7, -128)
	s, e := dot.Numbers(pair(4, 9, 13), four)
	wantSum(t, "P10.6: Numbers(r, Planes(5, 9, -7, -128))", s, e, -116)
	one, _ := dot.Planes(5)
	s, e = dot.Numbers(pair(4, 9, 13), one)
	refusedSum(t, "P10.6: Numbers(r, Planes(5))", s, e, api.ErrBits)
}
