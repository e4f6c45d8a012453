package conv

import (
	"heddle/api"
	"heddle/dot"
	"heddle/shape"
)

// stripWords is what the patches of a strip stay below, so that they need little memory however many places there are.
const stripWords = 1 << 16

// way reckons the sums of a strip, the places from first up to end, which is not among them, and writes them one place behind the other.
type way interface {
	strip(sums []int64, first, end int)
}

// task is what every way is told; nothing in it is changed.
type task struct {
	in, out api.Shape
	w       api.Window
	border  int
	rows    []api.Row
	wide    int // the words of a place
}

// newTask is the task over a shape that may be, or the first fault of the others.
func newTask(s api.Shape, w api.Window, border int, rows []api.Row) (task, api.Errno) {
	out, e := shape.Slide(s, w, len(rows))
	if e != api.OK {
		return task{}, e
	}
	if border < -1 || border > 1 {
		return task{}, api.ErrWindow
	}
	t := task{in: s, out: out, w: w, border: border, rows: rows, wide: (s.C + 63) / 64}
	for _, row := range rows {
		if e := dot.Check(row); e != api.OK {
			return task{}, e
		}
		if row.Some.Len != 64*t.patchWords() {
			return task{}, api.ErrBits
		}
	}
	return t, api.OK
}

// patchWords is how many words a patch has, as a row has them in Sign and in Some.
func (t task) patchWords() int { return t.w.R * t.w.S * t.wide }

// sums are those of all places, strip by strip; a place takes so many words.
func (t task) sums(by way, placeWords int) []int64 {
	places, outputs := t.out.H*t.out.W, t.out.C
	sums := make([]int64, places*outputs)
	step := max(1, (stripWords-1)/placeWords)
	for first := 0; first < places; first += step {
		end := min(first+step, places)
		by.strip(sums[first*outputs:end*outputs], first, end)
	}
	return sums
}

// corner is where in the tensor the window begins that gives an output's place; in a border it is below 0, or beyond the tensor.
func (t task) corner(place int) (top, left int) {
	y, x := place/t.out.W, place%t.out.W
	return y*t.w.StepY - t.w.Top, x*t.w.StepX - t.w.Left
}

// pair is a place of the window and the place of the tensor that it sees, by their numbers.
type pair struct{ own, at int }

// seen are the window's places within the tensor; they are written over those of the list, so that one list does for many places.
func (t task) seen(list []pair, place int) []pair {
	list = list[:0]
	top, left := t.corner(place)
	for r := max(0, -top); r < min(t.w.R, t.in.H-top); r++ {
		for s := max(0, -left); s < min(t.w.S, t.in.W-left); s++ {
			list = append(list, pair{own: r*t.w.S + s, at: (top+r)*t.in.W + left + s})
		}
	}
	return list
}
