package patch

import (
	"iter"
	"slices"

	"heddle/api"
	"heddle/bits"
)

// view is a cube seen through a window.
type view struct {
	c        api.Cube
	w        api.Window
	wide     int      // the words of a place
	channels []uint64 // a place's words with the bits of all its channels set
	border   api.Row  // what the window sees where there is nothing but the border
}

// lookAt is the view of a cube that may be, through a window that may be.
func lookAt(c api.Cube, w api.Window, border int) view {
	v := view{c: c, w: w, wide: wordsFor(c.Shape.C)}
	v.channels = slices.Repeat([]uint64{^uint64(0)}, v.wide)
	v.channels[v.wide-1] = bits.Tail(c.Shape.C)
	v.border = blank(w.R * w.S * v.wide)
	for at := 0; at < len(v.border.Some.Words); at += v.wide {
		if border != 0 {
			copy(v.border.Some.Words[at:], v.channels)
		}
		if border > 0 {
			copy(v.border.Sign.Words[at:], v.channels)
		}
	}
	return v
}

// from is what is seen at the place (y, x) of what the window gives: the border, and over it what lies within the tensor.
func (v view) from(y, x int) api.Row {
	seen := copied(v.border)
	top, left := y*v.w.StepY-v.w.Top, x*v.w.StepX-v.w.Left
	firstRow, endRow := within(top, v.w.R, v.c.Shape.H)
	firstColumn, endColumn := within(left, v.w.S, v.c.Shape.W)
	for r := firstRow; r < endRow; r++ {
		for s := firstColumn; s < endColumn; s++ {
			into := (r*v.w.S + s) * v.wide
			at := ((top+r)*v.c.Shape.W + left + s) * v.wide
			copy(seen.Some.Words[into:], v.channels)
			copy(seen.Sign.Words[into:], v.c.Words[at:at+v.wide])
		}
	}
	return seen
}

// within tells which of a window's rows (or columns) lie within a side of that length, if the first one is at start: from the first up to the end, which is not among them. If none do, the end is not above the first.
func within(start, window, length int) (first, end int) {
	return max(0, -start), min(window, length-start)
}

// places goes through a shape's places in their order.
func places(s api.Shape) iter.Seq2[int, int] {
	return func(yield func(int, int) bool) {
		for y := range s.H {
			for x := range s.W {
				if !yield(y, x) {
					return
				}
			}
		}
	}
}
