package plain

import "heddle/api"

// slide tells, for each place of the output in order, what the layer's window sees there: row by row, the channels of a place together, as an output's weights lie. It is one list, filled anew at each place.
func slide(l api.Layer, in tensor, out api.Shape, tell func(seen []int64)) {
	seen := make([]int64, l.Win.R*l.Win.S*in.shape.C)
	for y := range out.H {
		for x := range out.W {
			look(l, in, y*l.Win.StepY-l.Win.Top, x*l.Win.StepX-l.Win.Left, seen)
			tell(seen)
		}
	}
}

// look lays into seen what the layer's window sees, whose first row and column stand at (y, x) of the tensor.
func look(l api.Layer, in tensor, y, x int, seen []int64) {
	for i := range seen {
		seen[i] = int64(l.Border)
	}
	channels := in.shape.C
	top, bottom := within(y, l.Win.R, in.shape.H)
	left, right := within(x, l.Win.S, in.shape.W)
	for r := top; r < bottom; r++ {
		for s := left; s < right; s++ {
			from := ((y+r)*in.shape.W + x + s) * channels
			copy(seen[(r*l.Win.S+s)*channels:], in.values[from:from+channels])
		}
	}
}

// within cuts a window's side, whose first place stands at a place of a tensor's side, to what lies within the tensor: from first up to, but without, end. A window that stands in the border alone has an end that is not above first.
func within(at, window, length int) (first, end int) {
	return max(0, -at), min(window, length-at)
}
