package shape

import "heddle/api"

// side is one side of a tensor and what slides along it, so that rows and columns are reckoned alike.
type side struct {
	length        int
	before, after int // the borders
	window, step  int
}

// rows is the side along which a window goes down.
func rows(s api.Shape, w api.Window) side {
	return side{length: s.H, before: w.Top, after: w.Bottom, window: w.R, step: w.StepY}
}

// columns is the side along which a window goes to the right.
func columns(s api.Shape, w api.Window) side {
	return side{length: s.W, before: w.Left, after: w.Right, window: w.S, step: w.StepX}
}

// mayBe tells whether the window, its step and its borders are in their ranges; the length is Check's to tell.
func (d side) mayBe() bool {
	return min(d.window, d.step) >= 1 && max(d.window, d.step) <= api.MaxKernel &&
		min(d.before, d.after) >= 0 && max(d.before, d.after) <= api.MaxBorder
}

// stops is at how many places the window ends within the side and its borders: 0, if it does not fit at all.
func (d side) stops() int {
	room := d.before + d.length + d.after - d.window
	// The first stop needs no step, each further one a whole step more; a lack of room, however great, is no stop.
	return max(0, room+d.step) / d.step
}
