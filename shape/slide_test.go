package shape_test

import (
	"math"
	"testing"

	"heddle/api"
	"heddle/shape"
)

// win is a window: its size, its steps, its borders (Top Left Bottom Right).
func win(r, s, y, x, top, left, bottom, right int) api.Window {
	return api.Window{R: r, S: s, StepY: y, StepX: x, Top: top, Left: left, Bottom: bottom, Right: right}
}

// fields are the fields of a window with the least and the greatest that each may be.
func fields(w *api.Window) []struct {
	name        string
	at          *int
	least, most int
} {
	return []struct {
		name        string
		at          *int
		least, most int
	}{
		{"R", &w.R, 1, 15}, {"S", &w.S, 1, 15}, {"StepY", &w.StepY, 1, 15}, {"StepX", &w.StepX, 1, 15},
		{"Top", &w.Top, 0, 14}, {"Left", &w.Left, 0, 14}, {"Bottom", &w.Bottom, 0, 14}, {"Right", &w.Right, 0, 14},
	}
}

func TestWindowFields(t *testing.T) {
	for _, base := range []api.Window{win(3, 4, 1, 2, 1, 2, 3, 0), win(1, 1, 1, 1, 0, 0, 0, 0), win(15, 15, 15, 15, 14, 14, 14, 14)} {
		if e := shape.Window(base); e != api.OK {
			t.Errorf("P3.5: Window(%+v) = %d", base, e)
		}
		for i := range fields(&base) {
			for _, n := range []int{math.MinInt, math.MinInt + 1, -1 << 32, -15, -2, -1, 0, 1, 2, 7, 13, 14, 15, 16, 17, 4096, 1 << 32, 1 << 62, math.MaxInt - 1, math.MaxInt} {
				w := base
				f := fields(&w)[i]
				*f.at = n
				want := api.ErrWindow
				if within(n, f.least, f.most) {
					want = api.OK
				}
				if e := shape.Window(w); e != want {
					t.Errorf("P3.5: %s = %d: Window(%+v) = %d, want %d", f.name, n, w, e, want)
				}
				if _, e := shape.Slide(of(40, 40, 1), w, 1); (e == api.ErrWindow) != (want == api.ErrWindow) {
					t.Errorf("P3.6: %s = %d: Slide over it = %d", f.name, n, e)
				}
			}
		}
	}
}

func TestWindowsOfTheDocument(t *testing.T) {
	for _, c := range []struct {
		w api.Window
		e api.Errno
	}{
		{win(3, 3, 1, 1, 1, 1, 1, 1), api.OK},
		{win(0, 3, 1, 1, 0, 0, 0, 0), api.ErrWindow},
		{win(16, 1, 1, 1, 0, 0, 0, 0), api.ErrWindow},
		{win(1, 1, 1, 16, 0, 0, 0, 0), api.ErrWindow},
		{win(1, 1, 1, 1, 0, 0, 15, 0), api.ErrWindow},
		{win(1, 1, 1, 1, 14, 14, 14, 14), api.OK}, // a border may be higher than the window: it sees nothing else there
		{api.Window{}, api.ErrWindow},
	} {
		if e := shape.Window(c.w); e != c.e {
			t.Errorf("P3.5: Window(%+v) = %d, want %d", c.w, e, c.e)
		}
	}
}

func TestSlidesOfTheDocument(t *testing.T) {
	none := api.Shape{}
	for _, c := range []struct {
		s   api.Shape
		w   api.Window
		k   int
		out api.Shape
		e   api.Errno
	}{
		{of(5, 5, 3), win(3, 3, 1, 1, 1, 1, 1, 1), 8, of(5, 5, 8), api.OK},
		{of(5, 4, 1), win(2, 2, 2, 2, 0, 0, 0, 0), 7, of(2, 2, 7), api.OK},
		{of(2, 2, 1), win(3, 3, 1, 1, 0, 0, 0, 0), 1, none, api.ErrFit},
		{of(2, 2, 1), win(3, 3, 1, 1, 0, 0, 1, 0), 1, none, api.ErrFit},
		{of(2, 2, 1), win(3, 3, 15, 15, 1, 1, 0, 0), 1, of(1, 1, 1), api.OK},
		{of(4096, 1, 1), win(1, 1, 1, 1, 1, 0, 0, 0), 1, none, api.ErrShape},
		{of(4096, 2, 1), win(1, 1, 1, 1, 0, 0, 0, 0), 4096, none, api.ErrBig},
		{of(2, 2, 1), api.Window{}, 0, none, api.ErrShape},

		{of(2, 2, 1), win(3, 3, 1, 1, 0, 0, 0, 1), 1, none, api.ErrFit}, // the rows
		{of(2, 2, 1), win(3, 3, 1, 1, 0, 1, 1, 0), 1, of(1, 1, 1), api.OK},
		{of(1, 1, 1), win(15, 15, 1, 1, 14, 14, 0, 0), 2, of(1, 1, 2), api.OK},
		{of(1, 1, 1), win(15, 15, 1, 1, 0, 0, 14, 14), 2, of(1, 1, 2), api.OK},
		{of(1, 1, 1), win(15, 15, 15, 15, 13, 0, 0, 14), 2, none, api.ErrFit},
		{of(1, 1, 1), win(15, 15, 1, 1, 0, 0, 0, 0), 2, none, api.ErrFit},
		{of(1, 1, 1), win(1, 1, 1, 1, 14, 14, 14, 14), 1, of(29, 29, 1), api.OK},
		{of(7, 7, 1), win(3, 2, 3, 4, 1, 0, 0, 1), 2, of(2, 2, 2), api.OK},
		{of(4096, 1, 1), win(2, 1, 1, 1, 1, 0, 0, 0), 1, of(4096, 1, 1), api.OK},
		{of(4096, 1, 1), win(2, 1, 1, 1, 1, 0, 1, 0), 1, none, api.ErrShape},
		{of(1, 4096, 1), win(1, 2, 1, 1, 0, 1, 0, 0), 1, of(1, 4096, 1), api.OK},
		{of(1, 4096, 1), win(1, 2, 1, 1, 0, 1, 0, 1), 1, none, api.ErrShape},
		{of(4096, 4096, 1), win(15, 15, 15, 15, 14, 14, 14, 14), 4, of(274, 274, 4), api.OK},
		{of(4096, 1, 4096), win(1, 1, 1, 1, 0, 0, 0, 0), 1, of(4096, 1, 1), api.OK},
		{of(4096, 1, 1), win(1, 1, 1, 1, 0, 0, 0, 0), 4096, of(4096, 1, 4096), api.OK},
		{of(256, 256, 1), win(1, 1, 1, 1, 0, 0, 0, 0), 256, of(256, 256, 256), api.OK},
		{of(256, 256, 1), win(1, 1, 1, 1, 0, 0, 0, 0), 257, none, api.ErrBig},
		{of(256, 256, 1), win(1, 1, 1, 1, 0, 0, 0, 1), 256, none, api.ErrBig},
	} {
		if out, e := shape.Slide(c.s, c.w, c.k); out != c.out || e != c.e {
			t.Errorf("P3.6: Slide(%v, %+v, %d) = %v, %d, want %v, %d", c.s, c.w, c.k, out, e, c.out, c.e)
		}
	}
}

// TestFaultsOfSlideInOrder has several faults at a time: the one that stands first counts.
func TestFaultsOfSlideInOrder(t *testing.T) {
	good, bad := win(1, 1, 1, 1, 0, 0, 0, 0), win(1, 1, 1, 0, 0, 0, 0, 0)
	unfit := win(15, 15, 1, 1, 0, 0, 0, 0)
	for _, c := range []struct {
		why string
		s   api.Shape
		w   api.Window
		k   int
		e   api.Errno
	}{
		{"no shape, no k, no window", of(0, 1, 1), bad, 0, api.ErrShape},
		{"no shape, no window", of(1, 1, 4097), bad, 1, api.ErrShape},
		{"no shape, that does not fit", of(0, 0, 1), unfit, 1, api.ErrShape},
		{"too big, no k", of(4096, 4096, 2), good, 0, api.ErrBig},
		{"too big, k too great", of(4096, 4096, 2), good, 4097, api.ErrBig},
		{"too big, no window", of(4096, 4096, 2), bad, 1, api.ErrBig},
		{"too big, too many rows", of(4096, 4096, 2), win(1, 1, 1, 1, 1, 0, 0, 0), 1, api.ErrBig},
		{"k 0, no window", of(1, 1, 1), bad, 0, api.ErrShape},
		{"k -1, no window", of(1, 1, 1), bad, -1, api.ErrShape},
		{"k 4097, no window", of(1, 1, 1), bad, 4097, api.ErrShape},
		{"the least k, no window", of(1, 1, 1), bad, math.MinInt, api.ErrShape},
		{"the greatest k, no window", of(1, 1, 1), bad, math.MaxInt, api.ErrShape},
		{"k 0, that does not fit", of(1, 1, 1), unfit, 0, api.ErrShape},
		{"k 4097, that does not fit", of(1, 1, 1), unfit, 4097, api.ErrShape},
		{"no window, that would not fit", of(1, 1, 1), win(16, 16, 1, 1, 0, 0, 0, 0), 1, api.ErrWindow},
		{"no window, with too many rows", of(4096, 1, 1), win(1, 1, 1, 1, 15, 0, 0, 0), 1, api.ErrWindow},
		{"columns that do not fit, too many rows", of(4096, 1, 1), win(1, 2, 1, 1, 1, 0, 0, 0), 1, api.ErrFit},
		{"rows that do not fit, too many columns", of(1, 4096, 1), win(2, 1, 1, 1, 0, 0, 0, 1), 1, api.ErrFit},
		{"columns that do not fit, too many elements", of(4096, 1, 1), win(1, 2, 1, 1, 0, 0, 0, 0), 4096, api.ErrFit},
		{"too many rows, too many elements", of(4096, 1, 1), win(1, 1, 1, 1, 1, 0, 0, 0), 4096, api.ErrShape},
		{"too many columns, too many elements", of(1, 4096, 1), win(1, 1, 1, 1, 0, 0, 0, 1), 4096, api.ErrShape},
		{"too many elements", of(4096, 1, 1), win(1, 1, 1, 1, 0, 1, 0, 0), 4096, api.ErrBig},
	} {
		if out, e := shape.Slide(c.s, c.w, c.k); out != (api.Shape{}) || e != c.e {
			t.Errorf("P3.6: %s: Slide(%v, %+v, %d) = %v, %d, want %d", c.why, c.s, c.w, c.k, out, e, c.e)
		}
	}
	for _, k := range []int{1, 2, 63, 64, 65, 4095, 4096} {
		if out, e := shape.Slide(of(3, 3, 9), win(2, 2, 1, 1, 0, 0, 0, 0), k); out != of(2, 2, k) || e != api.OK {
			t.Errorf("P3.6: with k = %d: %v, %d", k, out, e)
		}
	}
}

// stops counts the places of a window along one side by going from one to the next.
func stops(length, before, after, window, step int) int {
	n := 0
	for at := -before; at+window <= length+after; at += step {
		n++
	}
	return n
}

// TestSlideBySteps holds every window along one side against a walk, as rows and as columns.
func TestSlideBySteps(t *testing.T) {
	for _, length := range []int{1, 2, 3, 14, 15, 16, 31, 4081, 4095, 4096} {
		for _, before := range []int{0, 1, 2, 7, 13, 14} {
			for _, after := range []int{0, 1, 2, 7, 13, 14} {
				for window := 1; window <= 15; window++ {
					for step := 1; step <= 15; step++ {
						n, want := stops(length, before, after, window, step), api.OK
						switch {
						case n == 0:
							want = api.ErrFit
						case n > 4096:
							n, want = 0, api.ErrShape
						}
						down, across := of(n, 1, 1), of(1, n, 1)
						if want != api.OK {
							down, across = api.Shape{}, api.Shape{}
						}
						w := win(window, 1, step, 1, before, 0, after, 0)
						if out, e := shape.Slide(of(length, 1, 2), w, 1); out != down || e != want {
							t.Fatalf("P3.6: %d rows, %+v: %v, %d, want %v, %d", length, w, out, e, down, want)
						}
						w = win(1, window, 1, step, 0, before, 0, after)
						if out, e := shape.Slide(of(1, length, 2), w, 1); out != across || e != want {
							t.Fatalf("P3.6: %d columns, %+v: %v, %d, want %v, %d", length, w, out, e, across, want)
						}
					}
				}
			}
		}
	}
}

// TestTheLastWindow: it begins and ends within the tensor and its borders; one step further on it would not end there.
func TestTheLastWindow(t *testing.T) {
	state := uint64(3)
	draw := func(least, most int) int {
		state = state*6364136223846793005 + 1442695040888963407
		return least + int(state>>33)%(most-least+1)
	}
	gone := 0
	for range 20000 {
		s := of(draw(1, 40), draw(1, 40), draw(1, 3))
		w := win(draw(1, 15), draw(1, 15), draw(1, 15), draw(1, 15), draw(0, 14), draw(0, 14), draw(0, 14), draw(0, 14))
		k := draw(1, 70)
		out, e := shape.Slide(s, w, k)
		fits := s.H+w.Top+w.Bottom >= w.R && s.W+w.Left+w.Right >= w.S
		if !fits {
			if out != (api.Shape{}) || e != api.ErrFit {
				t.Fatalf("P3.6: Slide(%v, %+v) = %v, %d, want ErrFit", s, w, out, e)
			}
			continue
		}
		gone++
		if e != api.OK || out.C != k || shape.Check(out) != api.OK {
			t.Fatalf("P3.6: Slide(%v, %+v, %d) = %v, %d", s, w, k, out, e)
		}
		row, column := (out.H-1)*w.StepY-w.Top, (out.W-1)*w.StepX-w.Left
		if row < -w.Top || column < -w.Left {
			t.Fatalf("P3.8: Slide(%v, %+v) = %v: the last window begins outside", s, w, out)
		}
		if row+w.R > s.H+w.Bottom || column+w.S > s.W+w.Right {
			t.Fatalf("P3.8: Slide(%v, %+v) = %v: the last window ends outside", s, w, out)
		}
		if row+w.StepY+w.R <= s.H+w.Bottom || column+w.StepX+w.S <= s.W+w.Right {
			t.Fatalf("P3.8: Slide(%v, %+v) = %v: there is room for one more", s, w, out)
		}
	}
	if gone < 10000 {
		t.Errorf("P3.8: only %d of the windows fitted", gone)
	}
}
