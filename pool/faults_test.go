package pool_test

import (
	"math"
	"runtime"
	"slices"
	"testing"

	"heddle/api"
	"heddle/cube"
	"heddle/shape"
)

// refused fails unless both calls answer just that error, and a zero cube beside it.
func refused(t *testing.T, what string, c api.Cube, w api.Window, is api.Errno) {
	t.Helper()
	for _, k := range calls {
		if a, e := k.ask(c, w); e != is || a.Shape != (api.Shape{}) || len(a.Words) != 0 {
			t.Errorf("P15.1: %s, %s, %v by %+v = %v, %d words, %d, not %d", k.what, what, c.Shape, w, a.Shape, len(a.Words), e, is)
		}
	}
}

// badCube is a cube that cube.Check refuses.
type badCube struct {
	what string
	c    api.Cube
	e    api.Errno
}

func badCubes() []badCube {
	words := func(n int) []uint64 { return make([]uint64, n) }
	return []badCube{
		{"no shape, no words", api.Cube{}, api.ErrShape},
		{"no rows", api.Cube{Shape: shapeOf(0, 2, 2)}, api.ErrShape},
		{"columns below 0", api.Cube{Shape: shapeOf(2, -1, 2), Words: words(2)}, api.ErrShape},
		{"no channels", api.Cube{Shape: shapeOf(2, 2, 0), Words: words(4)}, api.ErrShape},
		{"rows above 4096", api.Cube{Shape: shapeOf(4097, 1, 1), Words: words(4097)}, api.ErrShape},
		{"columns above 4096", api.Cube{Shape: shapeOf(1, 4097, 1), Words: words(4097)}, api.ErrShape},
		{"channels above 4096", api.Cube{Shape: shapeOf(1, 1, 4097), Words: words(65)}, api.ErrShape},
		{"the ends of int", api.Cube{Shape: shapeOf(math.MaxInt, math.MinInt, math.MaxInt)}, api.ErrShape},
		{"the greatest of int", api.Cube{Shape: shapeOf(math.MaxInt, math.MaxInt, math.MaxInt)}, api.ErrShape},
		{"too many elements", api.Cube{Shape: shapeOf(4096, 4096, 2)}, api.ErrBig},
		{"far too many elements", api.Cube{Shape: shapeOf(4096, 4096, 4096), Words: words(1)}, api.ErrBig},
		{"no words", api.Cube{Shape: shapeOf(2, 2, 1)}, api.ErrBits},
		{"a word too few", api.Cube{Shape: shapeOf(2, 2, 65), Words: words(7)}, api.ErrBits},
		{"a word too many", api.Cube{Shape: shapeOf(2, 2, 64), Words: words(5)}, api.ErrBits},
		{"a bit behind the first place's channels", api.Cube{Shape: shapeOf(1, 2, 3), Words: []uint64{8, 0}}, api.ErrBits},
		{"a bit behind the last place's channels", api.Cube{Shape: shapeOf(1, 2, 65), Words: []uint64{full, 1, full, 2}}, api.ErrBits},
		{"a bit that no window sees", api.Cube{Shape: shapeOf(1, 3, 1), Words: []uint64{0, 2, 0}}, api.ErrBits},
	}
}

// badWindows are such that shape.Window refuses: each number below its range, above it, and at the ends of int.
func badWindows() []api.Window {
	var made []api.Window
	for _, n := range []int{0, -1, 16, math.MinInt, math.MaxInt} {
		made = append(made, win(n, 1, 1, 1), win(1, n, 1, 1), win(1, 1, n, 1), win(1, 1, 1, n), win(n, n, n, n, n, n, n, n))
	}
	for _, n := range []int{-1, 15, math.MinInt, math.MaxInt} {
		made = append(made, win(1, 1, 1, 1, n), win(1, 1, 1, 1, 0, n), win(1, 1, 1, 1, 0, 0, n), win(1, 1, 1, 1, 0, 0, 0, n))
	}
	return append(made, api.Window{}, win(15, 15, 1, 1, 1, -1), win(15, 15, 1, 1, -1, 1), win(15, 16, 1, 1), win(15, 15, 1, 0), win(15, 15, 0, 1, 14))
}

// bordered are windows that may be, with one or more borders that are not 0, and of which no other thing is wrong.
func bordered() []api.Window {
	var made []api.Window
	for _, n := range []int{1, 2, 13, 14} {
		for _, side := range []int{1, 15} {
			made = append(made, win(side, side, 1, 1, n), win(side, side, 1, 1, 0, n), win(side, side, 1, 1, 0, 0, n), win(side, side, 1, 1, 0, 0, 0, n))
		}
		made = append(made, win(2, 3, 2, 15, n, n, n, n), win(1, 1, 1, 1, n, 0, n, 0), win(1, 1, 1, 1, 0, n, 0, n))
	}
	return made
}

// blankCube is a cube of minuses.
func blankCube(h, w, c int) api.Cube {
	return api.Cube{Shape: shapeOf(h, w, c), Words: make([]uint64, h*w*wordsOf(c))}
}

// TestRefusesCubes: each fault of a cube, beside every fault of a window, and where there is none.
func TestRefusesCubes(t *testing.T) {
	for _, bad := range badCubes() {
		if e := cube.Check(bad.c); e != bad.e {
			t.Fatalf("P12.1: Check of %s: %d", bad.what, e)
		}
		for _, w := range slices.Concat(badWindows(), bordered(), []api.Window{win(1, 1, 1, 1), win(1, 1, 1, 2), win(15, 15, 1, 1)}) {
			refused(t, bad.what, bad.c, w, bad.e)
		}
	}
}

// TestRefusesWindows: what shape.Window refuses, over cubes on which it would fit and on which it would not.
func TestRefusesWindows(t *testing.T) {
	for _, w := range badWindows() {
		if e := shape.Window(w); e != api.ErrWindow {
			t.Fatalf("P3.5: Window(%+v): %d", w, e)
		}
		for _, c := range []api.Cube{blankCube(1, 1, 1), blankCube(1, 20, 64), blankCube(20, 1, 65), blankCube(20, 20, 1)} {
			refused(t, "a window that may not be", c, w, api.ErrWindow)
		}
	}
}

// TestRefusesBorders: each border that is not 0 by itself, and several, where the window fits, where it does so by its borders alone, and where it does not; also where its borders would give a shape that may not be.
func TestRefusesBorders(t *testing.T) {
	great := []api.Cube{blankCube(4096, 1, 1), blankCube(1, 4096, 1), blankCube(4096, 16, 256)}
	for _, w := range bordered() {
		if e := shape.Window(w); e != api.OK {
			t.Fatalf("P3.5: Window(%+v): %d", w, e)
		}
		for _, c := range append(great, blankCube(1, 1, 1), blankCube(2, 15, 64), blankCube(15, 2, 65), blankCube(20, 20, 1)) {
			refused(t, "a window with a border", c, w, api.ErrWindow)
		}
	}
}

// TestRefusesMisfits: a window that is too high, too wide, both, by one and by many, whatever its steps.
func TestRefusesMisfits(t *testing.T) {
	for _, steps := range [][2]int{{1, 1}, {1, 15}, {15, 1}, {15, 15}} {
		for side := 1; side < 15; side++ {
			for _, more := range []int{1, 15 - side} {
				for _, c := range []int{1, 64, 65} {
					long, short := side+more, side
					refused(t, "too high", blankCube(short, 20, c), win(long, 2, steps[0], steps[1]), api.ErrFit)
					refused(t, "too wide", blankCube(20, short, c), win(2, long, steps[0], steps[1]), api.ErrFit)
					refused(t, "too high, just as wide", blankCube(short, long, c), win(long, long, steps[0], steps[1]), api.ErrFit)
					refused(t, "just as high, too wide", blankCube(long, short, c), win(long, long, steps[0], steps[1]), api.ErrFit)
					refused(t, "too high and too wide", blankCube(short, short, c), win(long, long, steps[0], steps[1]), api.ErrFit)
				}
			}
		}
	}
	refused(t, "too high", blankCube(14, 4096, 1), win(15, 1, 1, 1), api.ErrFit)
	refused(t, "too wide", blankCube(4096, 14, 1), win(1, 15, 1, 1), api.ErrFit)
}

// took is how many bytes a call takes from memory.
func took(call func()) uint64 {
	var before, after runtime.MemStats
	runtime.ReadMemStats(&before)
	call()
	runtime.ReadMemStats(&after)
	return after.TotalAlloc - before.TotalAlloc
}

// TestRefusesWithoutMaking: what is refused takes no memory, however great the cube.
func TestRefusesWithoutMaking(t *testing.T) {
	c := blankCube(4096, 14, 64)
	for _, w := range []api.Window{win(1, 15, 1, 1), win(1, 1, 1, 1, 1), win(1, 1, 0, 1)} {
		for _, k := range calls {
			if bytes := took(func() { k.ask(c, w) }); bytes > 1<<16 {
				t.Errorf("P15.1: %s by %+v is refused, but took %d bytes", k.what, w, bytes)
			}
		}
	}
}
