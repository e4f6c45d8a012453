package patch_test

import (
	"math"
	"slices"
	"strconv"
	"testing"

	"heddle/api"
	"heddle/dot"
	"heddle/patch"
)

const (
	full = math.MaxUint64
	most = api.MaxElems
)

// channels are at and beside a word's border.
var channels = []int{1, 63, 64, 65, 128, 129}

// borders are what may stand in a border.
var borders = []int{-1, 0, 1}

func shapeOf(h, w, c int) api.Shape { return api.Shape{H: h, W: w, C: c} }

func bitsOf(n int, words ...uint64) api.Bits { return api.Bits{Len: n, Words: words} }

// win is a window of a height, a width, the steps and the borders at the top, left, bottom and right, as many of them as are given.
func win(r, s, stepY, stepX int, edges ...int) api.Window {
	edges = append(edges, 0, 0, 0, 0)
	return api.Window{R: r, S: s, StepY: stepY, StepX: stepX, Top: edges[0], Left: edges[1], Bottom: edges[2], Right: edges[3]}
}

// chance gives numbers that look like chance, the same ones each time.
func chance(seed int) func(below int) int {
	state := uint64(seed)*0x9e3779b97f4a7c15 + 1
	return func(below int) int {
		state = state*6364136223846793005 + 1442695040888963407
		return int(state >> 33 % uint64(below))
	}
}

// tensor is a shape and, in the order of the elements' numbers, its pluses and minuses.
type tensor struct {
	s    api.Shape
	vals []int8
}

// someTensor has values that look like chance.
func someTensor(s api.Shape, seed int) tensor {
	next := chance(seed)
	x := tensor{s: s, vals: make([]int8, s.H*s.W*s.C)}
	for i := range x.vals {
		x.vals[i] = int8(2*next(2) - 1)
	}
	return x
}

// wordsOf is how many words so many channels take.
func wordsOf(channels int) int {
	words := channels / 64
	if channels%64 > 0 {
		words++
	}
	return words
}

// cube is the packed tensor, as the document tells it.
func (x tensor) cube() api.Cube {
	wide := wordsOf(x.s.C)
	c := api.Cube{Shape: x.s, Words: make([]uint64, x.s.H*x.s.W*wide)}
	for i, v := range x.vals {
		if v > 0 {
			c.Words[i/x.s.C*wide+i%x.s.C/64] += uint64(1) << (i % x.s.C % 64)
		}
	}
	return c
}

// at is an element, or what stands in the border, if there is no such place.
func (x tensor) at(y, col, channel, border int) int8 {
	if y < 0 || y >= x.s.H || col < 0 || col >= x.s.W {
		return int8(border)
	}
	return x.vals[(y*x.s.W+col)*x.s.C+channel]
}

// given is the rows and columns that a window gives: at how many places it ends within the tensor and its borders.
func given(s api.Shape, w api.Window) (rows, cols int) {
	for rows*w.StepY+w.R <= w.Top+s.H+w.Bottom {
		rows++
	}
	for cols*w.StepX+w.S <= w.Left+s.W+w.Right {
		cols++
	}
	return rows, cols
}

// seenAt is what the window sees at one place, element by element: window row, column, channel.
func (x tensor) seenAt(w api.Window, border, row, col int) []int8 {
	var seen []int8
	for r := range w.R {
		for s := range w.S {
			for c := range x.s.C {
				seen = append(seen, x.at(row*w.StepY+r-w.Top, col*w.StepX+s-w.Left, c, border))
			}
		}
	}
	return seen
}

// laid is the row of some weights, or of what a window sees, bit by bit: each place has words of its own.
func laid(channels int, vals []int8) api.Row {
	wide := wordsOf(channels)
	words := len(vals) / channels * wide
	r := api.Row{Sign: bitsOf(64*words, make([]uint64, words)...), Some: bitsOf(64*words, make([]uint64, words)...)}
	for i, v := range vals {
		word, bit := i/channels*wide+i%channels/64, uint64(1)<<(i%channels%64)
		if v == 1 {
			r.Sign.Words[word] += bit
		}
		if v != 0 {
			r.Some.Words[word] += bit
		}
	}
	return r
}

// patches are all patches and their shape, as the document tells them.
func (x tensor) patches(w api.Window, border int) ([]api.Row, api.Shape) {
	var all []api.Row
	rows, cols := given(x.s, w)
	for y := range rows {
		for col := range cols {
			all = append(all, laid(x.s.C, x.seenAt(w, border, y, col)))
		}
	}
	return all, shapeOf(rows, cols, 1)
}

func sameBits(a, b api.Bits) bool { return a.Len == b.Len && slices.Equal(a.Words, b.Words) }

func sameRow(a, b api.Row) bool { return sameBits(a.Sign, b.Sign) && sameBits(a.Some, b.Some) }

// wantRow fails unless a row was answered, just that one.
func wantRow(t *testing.T, what string, r api.Row, e api.Errno, is api.Row) {
	t.Helper()
	if e != api.OK || !sameRow(r, is) {
		t.Errorf("%s = %d: Len %d and %d, %d and %d words, not Len %d, %d words", what, e, r.Sign.Len, r.Some.Len, len(r.Sign.Words), len(r.Some.Words), is.Sign.Len, len(is.Sign.Words))
	}
}

// wantSum fails unless just that sum was answered.
func wantSum(t *testing.T, what string, n int64, e api.Errno, is int64) {
	t.Helper()
	if n != is || e != api.OK {
		t.Errorf("%s = %d, %d, not %d", what, n, e, is)
	}
}

// sees fails unless See tells what the document tells, where the window fits; it tells whether it does.
func sees(t *testing.T, x tensor, w api.Window, border int) bool {
	t.Helper()
	is, s := x.patches(w, border)
	l, shape, e := patch.See(x.cube(), w, border)
	if len(is) == 0 {
		noSight(t, "a window that does not fit", l, shape, e, api.ErrFit)
		return false
	}
	if e != api.OK || shape != s || !slices.EqualFunc(l, is, sameRow) {
		t.Errorf("P13.1: See of %v, %+v, %d: %d patches, %v, %d, not the %d of %v", x.s, w, border, len(l), shape, e, len(is), s)
	}
	return true
}

// TestSeeEachSmall: every small shape, window, step and border.
func TestSeeEachSmall(t *testing.T) {
	for _, c := range channels {
		t.Run(strconv.Itoa(c)+" channels", func(t *testing.T) {
			t.Parallel()
			seeEachSmall(t, c)
		})
	}
}

func seeEachSmall(t *testing.T, channels int) {
	fit, not := 0, 0
	for n := range 3 * 3 {
		x := someTensor(shapeOf(n/3+1, n%3+1, channels), n+channels)
		for k := range 9 * 4 * 81 {
			w := win(k%3+1, k/3%3+1, k/9%2+1, k/18%2+1, k/36%3, k/108%3, k/324%3, k/972)
			for _, b := range borders {
				if sees(t, x, w, b) {
					fit++
				} else {
					not++
				}
			}
		}
	}
	if fit == 0 || not == 0 {
		t.Errorf("P13.1: %d windows fit, %d do not", fit, not)
	}
}

// TestSeeMany: greater shapes, windows, steps and borders, picked as by chance.
func TestSeeMany(t *testing.T) {
	next := chance(13)
	for i := range 3000 {
		c := []int{1, 2, 5, 63, 64, 65, 70, 128, 129, 193}[next(10)]
		x := someTensor(shapeOf(next(7)+1, next(7)+1, c), i)
		w := win(next(6)+1, next(6)+1, next(5)+1, next(5)+1, next(7), next(7), next(7), next(7))
		sees(t, x, w, borders[next(3)])
	}
}

// TestSeeAtEdges: windows, steps and borders at the ends of their ranges, and long sides.
func TestSeeAtEdges(t *testing.T) {
	for _, b := range borders {
		for _, s := range []api.Shape{shapeOf(1, 1, 1), shapeOf(1, 1, 65), shapeOf(15, 15, 1), shapeOf(16, 14, 2), shapeOf(1, 31, 1), shapeOf(31, 1, 64)} {
			x := someTensor(s, s.H+s.W+s.C)
			for _, w := range []api.Window{
				win(15, 15, 1, 1, 14, 14, 14, 14), win(15, 15, 15, 15, 14, 14, 14, 14), win(15, 1, 1, 1, 14, 0, 0, 0), win(1, 15, 1, 1, 0, 14, 0, 0),
				win(15, 1, 1, 1, 0, 0, 14, 0), win(1, 15, 1, 1, 0, 0, 0, 14), win(1, 1, 15, 15, 14, 14, 14, 14), win(1, 1, 15, 15), win(1, 1, 1, 1),
				win(15, 15, 1, 1, 7, 7, 7, 7), win(15, 15, 14, 15, 0, 14, 14, 0), win(2, 3, 15, 1, 14, 0, 0, 14),
			} {
				sees(t, x, w, b)
			}
		}
		sees(t, someTensor(shapeOf(2, 2, 4096), 2), win(3, 2, 1, 1, 2, 1, 2, 1), b)
		sees(t, someTensor(shapeOf(1, 1, 4095), 3), win(15, 15, 15, 15, 14, 14, 14, 14), b)
		sees(t, someTensor(shapeOf(4096, 1, 1), 4), win(3, 1, 1, 1, 1, 0, 1, 0), b)
		sees(t, someTensor(shapeOf(1, 4096, 1), 5), win(1, 3, 1, 1, 0, 1, 0, 1), b)
		sees(t, someTensor(shapeOf(4096, 2, 1), 6), win(2, 1, 15, 1, 14, 0, 14, 0), b)
		sees(t, someTensor(shapeOf(2, 4096, 65), 7), win(1, 15, 1, 15, 0, 14, 0, 14), b)
	}
}

// TestSeeEachBit: each element is seen where it lies, as plus among minuses and as minus among pluses.
func TestSeeEachBit(t *testing.T) {
	for _, s := range []api.Shape{shapeOf(3, 2, 3), shapeOf(2, 3, 65), shapeOf(2, 2, 64)} {
		for i := range s.H * s.W * s.C {
			one := tensor{s, slices.Repeat([]int8{-1}, s.H*s.W*s.C)}
			others := tensor{s, slices.Repeat([]int8{1}, s.H*s.W*s.C)}
			one.vals[i], others.vals[i] = 1, -1
			for _, b := range borders {
				sees(t, one, win(2, 2, 1, 1, 1, 1, 1, 1), b)
				sees(t, others, win(2, 2, 1, 1, 1, 1, 1, 1), b)
			}
		}
	}
}

// TestSeeOnlyBorder: a window that has nothing but the border before it, at each side and each corner.
func TestSeeOnlyBorder(t *testing.T) {
	for _, c := range channels {
		x := someTensor(shapeOf(2, 2, c), c)
		nothing := map[int]api.Row{}
		for _, b := range borders {
			nothing[b] = laid(c, slices.Repeat([]int8{int8(b)}, 2*2*c))
		}
		for _, edges := range [][4]int{{2, 0, 0, 0}, {0, 2, 0, 0}, {0, 0, 2, 0}, {0, 0, 0, 2}, {2, 2, 2, 2}, {3, 3, 3, 3}, {14, 14, 14, 14}} {
			w := win(2, 2, 1, 1, edges[:]...)
			for _, b := range borders {
				sees(t, x, w, b)
				l, s, e := patch.See(x.cube(), w, b)
				if e != api.OK || len(l) != s.H*s.W {
					t.Fatalf("P13.1: See of %v, %+v, %d: %d patches, %d", x.s, w, b, len(l), e)
				}
				for i, p := range l {
					y, col := i/s.W-w.Top, i%s.W-w.Left
					out := y <= -2 || y >= 2 || col <= -2 || col >= 2
					if out && !sameRow(p, nothing[b]) {
						t.Errorf("P13.1: See of %v, %+v, %d: patch %d has more than the border", x.s, w, b, i)
					}
				}
			}
		}
	}
}

// TestSeeBetween: steps that lead from one border over the tensor into the other, so that no window sees the tensor, or just one.
func TestSeeBetween(t *testing.T) {
	x := someTensor(shapeOf(1, 1, 65), 3)
	for _, b := range borders {
		for _, w := range []api.Window{win(1, 1, 2, 1, 1, 0, 1, 0), win(1, 1, 1, 2, 0, 1, 0, 1), win(1, 1, 2, 2, 1, 1, 1, 1), win(2, 2, 4, 4, 3, 3, 3, 3), win(1, 1, 7, 7, 14, 14, 14, 14)} {
			sees(t, x, w, b)
		}
	}
}

// TestSeeNoBorder: where the window has no borders, each of the three may be given, and all see the same.
func TestSeeNoBorder(t *testing.T) {
	for _, c := range channels {
		x := someTensor(shapeOf(4, 5, c), c)
		for _, w := range []api.Window{win(1, 1, 1, 1), win(2, 2, 1, 1), win(3, 2, 2, 3), win(4, 5, 1, 1), win(1, 5, 15, 15)} {
			is, _, e := patch.See(x.cube(), w, 0)
			if e != api.OK || len(is) == 0 {
				t.Fatalf("P13.1: See of %v, %+v, 0: %d", x.s, w, e)
			}
			for _, b := range borders {
				sees(t, x, w, b)
				l, _, _ := patch.See(x.cube(), w, b)
				if !slices.EqualFunc(l, is, sameRow) {
					t.Errorf("P13.1: See of %v, %+v, %d is another than with the border 0", x.s, w, b)
				}
			}
		}
	}
}

// TestPatchesMayBe: each patch is a row that dot.Check takes, as long as the document says.
func TestPatchesMayBe(t *testing.T) {
	for _, c := range channels {
		x := someTensor(shapeOf(3, 3, c), c)
		for _, b := range borders {
			l, _, _ := patch.See(x.cube(), win(3, 2, 1, 2, 2, 1, 0, 3), b)
			for i, p := range l {
				if e := dot.Check(p); e != api.OK || p.Sign.Len != 3*2*64*((c+63)/64) {
					t.Errorf("P13.1: patch %d of %d channels: Len %d, dot.Check %d", i, c, p.Sign.Len, e)
				}
			}
		}
	}
}
