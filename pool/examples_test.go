package pool_test

import (
	"slices"
	"testing"

	"heddle/api"
	"heddle/cube"
	"heddle/pool"
)

// read is the tensor of a text of pluses and minuses.
func read(s api.Shape, text string) tensor {
	x := tensor{s: s}
	for _, sign := range text {
		switch sign {
		case '+':
			x.vals = append(x.vals, 1)
		case '-':
			x.vals = append(x.vals, -1)
		}
	}
	return x
}

// TestExamples: the chapter's.
func TestExamples(t *testing.T) {
	it := read(shapeOf(2, 3, 1), "+ - - / - - +").cube()
	for _, x := range []struct {
		what string
		call call
		w    api.Window
		is   tensor
	}{
		{"by 2 x 2, steps 1 1", calls[0], win(2, 2, 1, 1), read(shapeOf(1, 2, 1), "+ +")},
		{"by 2 x 2, steps 1 1", calls[1], win(2, 2, 1, 1), read(shapeOf(1, 2, 1), "- -")},
		{"by 1 x 1, steps 1 2", calls[0], win(1, 1, 1, 2), read(shapeOf(2, 2, 1), "+ - / - +")},
		{"by 2 x 2, steps 2 2", calls[0], win(2, 2, 2, 2), read(shapeOf(1, 1, 1), "+")},
	} {
		a, e := x.call.ask(it, x.w)
		if e != api.OK || !sameCube(a, x.is.cube()) {
			t.Errorf("%s %s = %v, %x, %d", x.call.what, x.what, a.Shape, a.Words, e)
		}
		back, e := cube.Unpack(a)
		if e != api.OK || !slices.Equal(back, x.is.vals) {
			t.Errorf("%s %s = %v, %d", x.call.what, x.what, back, e)
		}
	}
	refused(t, "by 3 x 1", it, win(3, 1, 1, 1), api.ErrFit)
	refused(t, "by 2 x 2 with a border", it, win(2, 2, 1, 1, 0, 0, 0, 1), api.ErrWindow)
	refused(t, "by 0 x 1", it, win(0, 1, 1, 1), api.ErrWindow)
	it.Words[2] = 2
	if a, e := pool.Max(it, win(2, 2, 1, 1)); e != api.ErrBits || len(a.Words) != 0 {
		t.Errorf("P15.1: Max of a cube with a bit behind its channels: %d", e)
	}
}
