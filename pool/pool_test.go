package pool_test

import (
	"math"
	"slices"
	"testing"

	"heddle/api"
	"heddle/cube"
	"heddle/pool"
)

const full = math.MaxUint64

// channels are at and beside a word's border.
var channels = []int{1, 63, 64, 65, 128, 129}

// call is one of the package's, and what it tells of the elements that a window sees.
type call struct {
	what string
	ask  func(api.Cube, api.Window) (api.Cube, api.Errno)
	of   func([]int8) int8
}

var calls = []call{{"P15.2: Max", pool.Max, slices.Max[[]int8]}, {"P15.3: Min", pool.Min, slices.Min[[]int8]}}

func shapeOf(h, w, c int) api.Shape { return api.Shape{H: h, W: w, C: c} }

// win is a window of a height, a width, the steps and the borders at the top, left, bottom and right, as many of them as are given.
func win(r, s, stepY, stepX int, edges ...int) api.Window {
	edges = append(edges, 0, 0, 0, 0)
	return api.Window{R: r, S: s, StepY: stepY, StepX: stepX, Top: edges[0], Left: edges[1], Bottom: edges[2], Right: edges[3]}
}

// chance gives numbers that look like chance, the same ones each time.
func chance(seed int) func(below int) int {
	state := uint64(seed)*0x9e3779b97f4a7c15 + 1
	return func(below int) int {
		state = state*6364136223846793005 + 1442695040888963407
		return int(state >> 33 % uint64(below))
	}
}

// tensor is a shape and, in the order of the elements' numbers, its pluses and minuses.
type tensor struct {
	s    api.Shape
	vals []int8
}

// evenly is a tensor that has one value everywhere.
func evenly(s api.Shape, v int8) tensor {
	return tensor{s, slices.Repeat([]int8{v}, s.H*s.W*s.C)}
}

// rarely has minuses, and a plus at one element of so many, as if by chance.
func rarely(s api.Shape, one, seed int) tensor {
	next := chance(seed)
	x := evenly(s, -1)
	for i := range x.vals {
		if next(one) == 0 {
			x.vals[i] = 1
		}
	}
	return x
}

// turned has a minus where the tensor has a plus, and a plus where it has a minus.
func (x tensor) turned() tensor {
	made := evenly(x.s, 0)
	for i, v := range x.vals {
		made.vals[i] = -v
	}
	return made
}

// some are tensors in which a window of so many places now sees both, and now pluses or minuses alone.
func some(s api.Shape, places, seed int) []tensor {
	return []tensor{rarely(s, places+1, seed), rarely(s, places+1, seed+1).turned(), rarely(s, 2, seed+2)}
}

// wordsOf is how many words so many channels take.
func wordsOf(channels int) int {
	words := channels / 64
	if channels%64 > 0 {
		words++
	}
	return words
}

// cube is the packed tensor, as the document tells it.
func (x tensor) cube() api.Cube {
	wide := wordsOf(x.s.C)
	c := api.Cube{Shape: x.s, Words: make([]uint64, x.s.H*x.s.W*wide)}
	for i, v := range x.vals {
		if v > 0 {
			c.Words[i/x.s.C*wide+i%x.s.C/64] += uint64(1) << (i % x.s.C % 64)
		}
	}
	return c
}

// given is the rows and columns that a window gives: at how many places it ends within the tensor.
func given(s api.Shape, w api.Window) (rows, cols int) {
	for rows*w.StepY+w.R <= s.H {
		rows++
	}
	for cols*w.StepX+w.S <= s.W {
		cols++
	}
	return rows, cols
}

// seenAt is what the window sees of a channel at one place.
func (x tensor) seenAt(w api.Window, row, col, channel int) []int8 {
	var seen []int8
	for r := range w.R {
		for s := range w.S {
			at := (row*w.StepY+r)*x.s.W + col*w.StepX + s
			seen = append(seen, x.vals[at*x.s.C+channel])
		}
	}
	return seen
}

// pooled is what the window gives, element by element.
func (x tensor) pooled(w api.Window, of func([]int8) int8) tensor {
	rows, cols := given(x.s, w)
	made := tensor{s: shapeOf(rows, cols, x.s.C)}
	for row := range rows {
		for col := range cols {
			for c := range x.s.C {
				made.vals = append(made.vals, of(x.seenAt(w, row, col, c)))
			}
		}
	}
	return made
}

// sameCube tells whether two cubes have one shape and the same words.
func sameCube(a, b api.Cube) bool {
	return a.Shape == b.Shape && slices.Equal(a.Words, b.Words)
}

// want fails unless both calls tell of the tensor what its elements say, without a bit behind the channels.
func want(t *testing.T, x tensor, w api.Window) {
	t.Helper()
	c := x.cube()
	for _, k := range calls {
		is := x.pooled(w, k.of).cube()
		a, e := k.ask(c, w)
		if e != api.OK || !sameCube(a, is) {
			t.Errorf("%s of %v, words %x, by %+v = %v, %x, %d, not %v, %x", k.what, x.s, c.Words, w, a.Shape, a.Words, e, is.Shape, is.Words)
		}
		if e := cube.Check(a); e != api.OK {
			t.Errorf("%s of %v by %+v is no cube: %d", k.what, x.s, w, e)
		}
	}
}

// TestSmall: every small shape, window and step, with channels at and beside a word's border; what does not fit is refused.
func TestSmall(t *testing.T) {
	t.Parallel()
	for _, c := range channels {
		t.Run("", func(t *testing.T) {
			t.Parallel()
			for n := range 4 * 4 * 4 * 4 * 3 * 3 {
				s := shapeOf(n%4+1, n/4%4+1, c)
				w := win(n/16%4+1, n/64%4+1, n/256%3+1, n/768+1)
				if w.R > s.H || w.S > s.W {
					refused(t, "a window that does not fit", rarely(s, 2, n).cube(), w, api.ErrFit)
					continue
				}
				for _, x := range some(s, w.R*w.S, n) {
					want(t, x, w)
				}
			}
		})
	}
}

// TestEnds: windows and steps at the ends of their ranges and beside them, over tensors on which the last window just ends within, and which have up to a step's places more.
func TestEnds(t *testing.T) {
	t.Parallel()
	ends := []int{1, 2, 14, 15}
	for n := range len(ends) * len(ends) {
		window, step := ends[n%4], ends[n/4]
		for more := range min(step+1, 3) {
			for _, gives := range []int{1, 2, 3} {
				length := (gives-1)*step + window + more
				want(t, rarely(shapeOf(length, 3, 65), window+1, n), win(window, 2, step, 1))
				want(t, rarely(shapeOf(length, 3, 65), 2*window+1, n).turned(), win(window, 2, step, 1))
				want(t, rarely(shapeOf(3, length, 65), window+1, n), win(2, window, 1, step))
				want(t, rarely(shapeOf(3, length, 65), 2*window+1, n).turned(), win(2, window, 1, step))
				want(t, rarely(shapeOf(length, length, 2), window*window+1, n), win(window, window, step, step))
				want(t, rarely(shapeOf(length, length, 2), window*window+1, n).turned(), win(window, window, step, step))
			}
		}
	}
}

// TestLastWindow: where the last window just ends within there is one place more than with a row, or a column, less.
func TestLastWindow(t *testing.T) {
	for _, window := range []int{1, 2, 3, 15} {
		for _, step := range []int{1, 2, 14, 15} {
			for gives := 1; gives <= 3; gives++ {
				length := gives*step + window
				for i, x := range []struct {
					s     api.Shape
					w     api.Window
					given api.Shape
				}{
					{shapeOf(length, 2, 65), win(window, 1, step, 1), shapeOf(gives+1, 2, 65)},
					{shapeOf(length-1, 2, 65), win(window, 1, step, 1), shapeOf(gives, 2, 65)},
					{shapeOf(2, length, 65), win(1, window, 1, step), shapeOf(2, gives+1, 65)},
					{shapeOf(2, length-1, 65), win(1, window, 1, step), shapeOf(2, gives, 65)},
				} {
					for _, k := range calls {
						a, e := k.ask(evenly(x.s, 1).cube(), x.w)
						if e != api.OK || !sameCube(a, evenly(x.given, 1).cube()) {
							t.Errorf("%s of %v by %+v (%d): %v, %x, %d", k.what, x.s, x.w, i, a.Shape, a.Words, e)
						}
					}
				}
			}
		}
	}
}

// TestWindowAsTheTensor: a window as high and as wide as the tensor, whatever its steps, sees all of it at one place.
func TestWindowAsTheTensor(t *testing.T) {
	for side := 1; side <= 15; side++ {
		for _, step := range []int{1, side, 15} {
			for i, x := range some(shapeOf(side, 16-side, 129), side*(16-side), side) {
				w := win(side, 16-side, step, 16-step)
				want(t, x, w)
				if rows, cols := given(x.s, w); rows != 1 || cols != 1 {
					t.Errorf("%d: %v by %+v gives %d, %d", i, x.s, w, rows, cols)
				}
			}
		}
	}
}

// few are windows over 4 rows and 5 columns.
var few = []api.Window{win(1, 1, 1, 1), win(2, 2, 1, 1), win(2, 2, 2, 2), win(1, 2, 3, 1), win(3, 1, 1, 3), win(4, 5, 15, 15), win(3, 2, 1, 2)}

// TestEven: of pluses alone both tell pluses, of minuses alone minuses.
func TestEven(t *testing.T) {
	for _, c := range channels {
		for _, w := range few {
			for _, v := range []int8{1, -1} {
				x := evenly(shapeOf(4, 5, c), v)
				want(t, x, w)
				rows, cols := given(x.s, w)
				for _, k := range calls {
					if a, e := k.ask(x.cube(), w); e != api.OK || !sameCube(a, evenly(shapeOf(rows, cols, c), v).cube()) {
						t.Errorf("%s of %d alone, %v, by %+v: %v, %x, %d", k.what, v, x.s, w, a.Shape, a.Words, e)
					}
				}
			}
		}
	}
}

// TestAlone: one plus among minuses, and one minus among pluses, at every element.
func TestAlone(t *testing.T) {
	t.Parallel()
	for _, c := range channels {
		t.Run("", func(t *testing.T) {
			t.Parallel()
			s := shapeOf(4, 5, c)
			next := chance(c)
			for i := range s.H * s.W * c {
				x := evenly(s, -1)
				x.vals[i] = 1
				w := few[next(len(few))]
				want(t, x, w)
				want(t, x.turned(), w)
			}
			// At every place each of the windows, in the first and the last channel.
			for i := range s.H * s.W * 2 {
				x := evenly(s, -1)
				x.vals[i/2*c+i%2*(c-1)] = 1
				for _, w := range few {
					want(t, x, w)
					want(t, x.turned(), w)
				}
			}
		})
	}
}

// TestChance: shapes, windows, steps and channels as if by chance.
func TestChance(t *testing.T) {
	t.Parallel()
	next := chance(15)
	for n := range 300 {
		w := win(next(15)+1, next(15)+1, next(15)+1, next(15)+1)
		s := shapeOf(w.R+next(25), w.S+next(25), next(140)+1)
		want(t, some(s, w.R*w.S, n)[n%3], w)
	}
}

// evenWords are the words of a place that has the value v in all its channels.
func evenWords(channels int, v int8) []uint64 {
	return evenly(shapeOf(1, 1, channels), v).cube().Words
}

// lone is a cube of the value v, with one element of the other value.
func lone(s api.Shape, v int8, y, x, channel int) api.Cube {
	c := api.Cube{Shape: s, Words: slices.Repeat(evenWords(s.C, v), s.H*s.W)}
	c.Words[(y*s.W+x)*wordsOf(s.C)+channel/64] ^= 1 << (channel % 64)
	return c
}

// loneSeen counts the places that have the value v but in that channel, and tells whether the others have nothing but v.
func loneSeen(c api.Cube, v int8, channel int) (int, bool) {
	even := evenWords(c.Shape.C, v)
	other := slices.Clone(even)
	other[channel/64] ^= 1 << (channel % 64)
	count := 0
	for place := range slices.Chunk(c.Words, len(even)) {
		if slices.Equal(place, other) {
			count++
		} else if !slices.Equal(place, even) {
			return 0, false
		}
	}
	return count, true
}

// TestGreat: the greatest cubes that may be, each with one element apart from the others, which some places see.
func TestGreat(t *testing.T) {
	t.Parallel()
	for _, g := range []struct {
		s          api.Shape
		w          api.Window
		y, x, c    int
		seenBy     int
		rows, cols int
	}{
		{shapeOf(4096, 4096, 1), win(15, 15, 1, 1), 2000, 3000, 0, 225, 4082, 4082},
		{shapeOf(4096, 4096, 1), win(15, 15, 15, 15), 4094, 4094, 0, 1, 273, 273},
		{shapeOf(4096, 4096, 1), win(1, 15, 15, 15), 4095, 4095, 0, 0, 274, 273},
		{shapeOf(4096, 1, 4096), win(15, 1, 1, 1), 4095, 0, 4095, 1, 4082, 1},
		{shapeOf(1, 4096, 4096), win(1, 15, 1, 2), 0, 14, 64, 8, 1, 2041},
		{shapeOf(64, 64, 4096), win(15, 15, 1, 1), 0, 1, 63, 2, 50, 50},
		{shapeOf(64, 64, 4096), win(1, 1, 1, 1), 63, 63, 4095, 1, 64, 64},
		{shapeOf(2048, 126, 65), win(2, 3, 2, 3), 2047, 125, 64, 1, 1024, 42},
	} {
		t.Run("", func(t *testing.T) {
			t.Parallel()
			for i, v := range []int8{-1, 1} {
				k := calls[i]
				a, e := k.ask(lone(g.s, v, g.y, g.x, g.c), g.w)
				if e != api.OK || a.Shape != shapeOf(g.rows, g.cols, g.s.C) || cube.Check(a) != api.OK {
					t.Errorf("%s of %v by %+v: %v, %d", k.what, g.s, g.w, a.Shape, e)
				} else if n, ok := loneSeen(a, v, g.c); n != g.seenBy || !ok {
					t.Errorf("%s of %v by %+v: %d places see the element, not %d", k.what, g.s, g.w, n, g.seenBy)
				}
			}
		})
	}
}
