package conv_test

import (
	"math"
	"slices"
	"strconv"
	"testing"

	"heddle/api"
	"heddle/conv"
)

const (
	full = math.MaxUint64
	most = api.MaxElems
)

// channels are at and beside a word's border.
var channels = []int{1, 63, 64, 65, 128, 129}

// borders are what may stand in a border.
var borders = []int{-1, 0, 1}

func shapeOf(h, w, c int) api.Shape { return api.Shape{H: h, W: w, C: c} }

func bitsOf(n int, words ...uint64) api.Bits { return api.Bits{Len: n, Words: words} }

// win is a window of a height, a width, the steps and the borders at the top, left, bottom and right, as many of them as are given.
func win(r, s, stepY, stepX int, edges ...int) api.Window {
	edges = append(edges, 0, 0, 0, 0)
	return api.Window{R: r, S: s, StepY: stepY, StepX: stepX, Top: edges[0], Left: edges[1], Bottom: edges[2], Right: edges[3]}
}

// chance gives numbers that look like chance, the same ones each time.
func chance(seed int) func(below int) int {
	state := uint64(seed)*0x9e3779b97f4a7c15 + 1
	return func(below int) int {
		state = state*6364136223846793005 + 1442695040888963407
		return int(state >> 33 % uint64(below))
	}
}

// tensor is a shape and, in the order of the elements' numbers, its values.
type tensor struct {
	s    api.Shape
	vals []int8
}

// someSigns is a tensor of pluses and minuses that look like chance.
func someSigns(s api.Shape, seed int) tensor {
	next := chance(seed)
	x := tensor{s: s, vals: make([]int8, s.H*s.W*s.C)}
	for i := range x.vals {
		x.vals[i] = int8(2*next(2) - 1)
	}
	return x
}

// someNumbers is a tensor of numbers from -128 to 127 that look like chance.
func someNumbers(s api.Shape, seed int) tensor {
	next := chance(seed)
	x := tensor{s: s, vals: make([]int8, s.H*s.W*s.C)}
	for i := range x.vals {
		x.vals[i] = int8(next(256) - 128)
	}
	return x
}

// evenly is a tensor that has one value everywhere.
func evenly(s api.Shape, v int8) tensor {
	return tensor{s, slices.Repeat([]int8{v}, s.H*s.W*s.C)}
}

// wordsOf is how many words so many channels take.
func wordsOf(channels int) int {
	words := channels / 64
	if channels%64 > 0 {
		words++
	}
	return words
}

// cube is the packed tensor, as the document tells it.
func (x tensor) cube() api.Cube {
	wide := wordsOf(x.s.C)
	c := api.Cube{Shape: x.s, Words: make([]uint64, x.s.H*x.s.W*wide)}
	for i, v := range x.vals {
		if v > 0 {
			c.Words[i/x.s.C*wide+i%x.s.C/64] += uint64(1) << (i % x.s.C % 64)
		}
	}
	return c
}

// at is an element, or what stands in the border, if there is no such place.
func (x tensor) at(y, col, channel, border int) int8 {
	if y < 0 || y >= x.s.H || col < 0 || col >= x.s.W {
		return int8(border)
	}
	return x.vals[(y*x.s.W+col)*x.s.C+channel]
}

// given is the rows and columns that a window gives: at how many places it ends within the tensor and its borders.
func given(s api.Shape, w api.Window) (rows, cols int) {
	for rows*w.StepY+w.R <= w.Top+s.H+w.Bottom {
		rows++
	}
	for cols*w.StepX+w.S <= w.Left+s.W+w.Right {
		cols++
	}
	return rows, cols
}

// seenAt is what the window sees at one place, element by element: window row, column, channel.
func (x tensor) seenAt(w api.Window, border, row, col int) []int8 {
	seen := make([]int8, 0, w.R*w.S*x.s.C)
	for r := range w.R {
		for s := range w.S {
			for c := range x.s.C {
				seen = append(seen, x.at(row*w.StepY+r-w.Top, col*w.StepX+s-w.Left, c, border))
			}
		}
	}
	return seen
}

// sums are all sums and their shape, weight by weight, as the document tells them.
func (x tensor) sums(w api.Window, border int, weights [][]int8) ([]int64, api.Shape) {
	rows, cols := given(x.s, w)
	made := make([]int64, 0, rows*cols*len(weights))
	for y := range rows {
		for col := range cols {
			seen := x.seenAt(w, border, y, col)
			for _, list := range weights {
				sum := int64(0)
				for i, weight := range list {
					sum += int64(weight) * int64(seen[i])
				}
				made = append(made, sum)
			}
		}
	}
	return made, shapeOf(rows, cols, len(weights))
}

// laid is the row of some weights, bit by bit: each place has words of its own.
func laid(channels int, vals []int8) api.Row {
	wide := wordsOf(channels)
	words := len(vals) / channels * wide
	r := api.Row{Sign: bitsOf(64*words, make([]uint64, words)...), Some: bitsOf(64*words, make([]uint64, words)...)}
	for i, v := range vals {
		word, bit := i/channels*wide+i%channels/64, uint64(1)<<(i%channels%64)
		if v == 1 {
			r.Sign.Words[word] += bit
		}
		if v != 0 {
			r.Some.Words[word] += bit
		}
	}
	return r
}

func laidAll(channels int, lists [][]int8) []api.Row {
	made := make([]api.Row, len(lists))
	for i, l := range lists {
		made[i] = laid(channels, l)
	}
	return made
}

// weightsFor are so many lists of weights for a window and channels: the first like chance, then one of pluses, one of minuses and nothing, and others like chance.
func weightsFor(w api.Window, channels, many, seed int) [][]int8 {
	next := chance(seed)
	made := make([][]int8, many)
	for k := range made {
		made[k] = make([]int8, w.R*w.S*channels)
		for i := range made[k] {
			switch k {
			case 1:
				made[k][i] = 1
			case 2:
				made[k][i] = int8(-next(2))
			default:
				made[k][i] = int8(next(3) - 1)
			}
		}
	}
	return made
}

// way is one of the three over a packed tensor.
type way struct {
	what string
	call func(c api.Cube, w api.Window, border int, rows []api.Row) ([]int64, api.Shape, api.Errno)
}

var ways = []way{{"Direct", conv.Direct}, {"Patch", conv.Patch}, {"Block", conv.Block}}

// want fails unless just these sums were answered.
func want(t *testing.T, what string, l []int64, s api.Shape, e api.Errno, is []int64, shape api.Shape) {
	t.Helper()
	if e == api.OK && s == shape && slices.Equal(l, is) {
		return
	}
	at := 0
	for at < min(len(l), len(is)) && l[at] == is[at] {
		at++
	}
	t.Errorf("%s: %d sums, %v, %d, not the %d of %v; the first that differs is %d", what, len(l), s, e, len(is), shape, at)
}

// refused fails unless just that error was answered, and zero values beside it.
func refused(t *testing.T, what string, l []int64, s api.Shape, e, is api.Errno) {
	t.Helper()
	if e != is || len(l) != 0 || s != (api.Shape{}) {
		t.Errorf("P14.1: %s = %d sums, %v, %d, not %d", what, len(l), s, e, is)
	}
}

func told(what string, s api.Shape, w api.Window, border int) string {
	n := func(i int) string { return " " + strconv.Itoa(i) }
	return what + " of" + n(s.H) + n(s.W) + n(s.C) + ", window" + n(w.R) + n(w.S) + ", steps" + n(w.StepY) + n(w.StepX) + ", borders" + n(w.Top) + n(w.Left) + n(w.Bottom) + n(w.Right) + ", border" + n(border)
}

// holdsFor fails unless the three ways answer these sums of a tensor of pluses and minuses, and Numbers of it too.
func holdsFor(t *testing.T, x tensor, w api.Window, border int, rows []api.Row, is []int64, shape api.Shape) {
	t.Helper()
	for _, f := range ways {
		l, s, e := f.call(x.cube(), w, border, rows)
		want(t, told("P14.2, P14.3: "+f.what, x.s, w, border), l, s, e, is, shape)
	}
	l, s, e := conv.Numbers(x.s, x.vals, w, border, rows)
	want(t, told("P14.4: Numbers", x.s, w, border), l, s, e, is, shape)
}

// reckons fails unless all calls answer what the document tells, where the window fits; it tells whether it does.
func reckons(t *testing.T, x tensor, w api.Window, border int, weights [][]int8) bool {
	t.Helper()
	rows := laidAll(x.s.C, weights)
	is, shape := x.sums(w, border, weights)
	if len(is) > 0 {
		holdsFor(t, x, w, border, rows, is, shape)
		return true
	}
	for _, f := range ways {
		l, s, e := f.call(x.cube(), w, border, rows)
		refused(t, told(f.what, x.s, w, border), l, s, e, api.ErrFit)
	}
	l, s, e := conv.Numbers(x.s, x.vals, w, border, rows)
	refused(t, told("Numbers", x.s, w, border), l, s, e, api.ErrFit)
	return false
}

// TestEachSmall: every small shape, window, step and border; with one channel borders of up to 2, with more of up to 1.
func TestEachSmall(t *testing.T) {
	t.Parallel()
	for _, c := range channels {
		for high := range 3 {
			t.Run(strconv.Itoa(c)+" channels, "+strconv.Itoa(high+1)+" rows", func(t *testing.T) {
				t.Parallel()
				eachSmall(t, high+1, c)
			})
		}
	}
}

func eachSmall(t *testing.T, high, channels int) {
	edges := 2
	if channels == 1 {
		edges = 3
	}
	fit, not := 0, 0
	for wide := range 3 {
		x := someSigns(shapeOf(high, wide+1, channels), high+wide+channels)
		for k := range 9 * 4 * edges * edges * edges * edges {
			e := k / 36
			w := win(k%3+1, k/3%3+1, k/9%2+1, k/18%2+1, e%edges, e/edges%edges, e/edges/edges%edges, e/edges/edges/edges)
			weights := weightsFor(w, channels, k%3+1, k)
			for _, b := range borders {
				if reckons(t, x, w, b, weights) {
					fit++
				} else {
					not++
				}
			}
		}
	}
	if fit == 0 || not == 0 {
		t.Errorf("P14.2: %d windows fit, %d do not", fit, not)
	}
}

// TestMany: greater shapes, windows, steps and borders, picked as by chance.
func TestMany(t *testing.T) {
	t.Parallel()
	next := chance(14)
	for i := range 1500 {
		c := []int{1, 2, 5, 63, 64, 65, 70, 128, 129, 193}[next(10)]
		x := someSigns(shapeOf(next(7)+1, next(7)+1, c), i)
		w := win(next(6)+1, next(6)+1, next(5)+1, next(5)+1, next(7), next(7), next(7), next(7))
		reckons(t, x, w, borders[next(3)], weightsFor(w, c, next(11)+1, i))
	}
}

// TestAtEdges: windows, steps and borders at the ends of their ranges, and long sides.
func TestAtEdges(t *testing.T) {
	t.Parallel()
	for _, b := range borders {
		t.Run("border "+strconv.Itoa(b), func(t *testing.T) {
			t.Parallel()
			atEdges(t, b)
			longSides(t, b)
		})
	}
}

func atEdges(t *testing.T, b int) {
	for _, s := range []api.Shape{shapeOf(1, 1, 1), shapeOf(1, 1, 65), shapeOf(15, 15, 1), shapeOf(16, 14, 2), shapeOf(1, 31, 1), shapeOf(31, 1, 64)} {
		x := someSigns(s, s.H+s.W+s.C)
		for _, w := range []api.Window{
			win(15, 15, 1, 1, 14, 14, 14, 14), win(15, 15, 15, 15, 14, 14, 14, 14), win(15, 1, 1, 1, 14, 0, 0, 0), win(1, 15, 1, 1, 0, 14, 0, 0),
			win(15, 1, 1, 1, 0, 0, 14, 0), win(1, 15, 1, 1, 0, 0, 0, 14), win(1, 1, 15, 15, 14, 14, 14, 14), win(1, 1, 15, 15), win(1, 1, 1, 1),
			win(15, 15, 1, 1, 7, 7, 7, 7), win(15, 15, 14, 15, 0, 14, 14, 0), win(2, 3, 15, 1, 14, 0, 0, 14), win(14, 14, 1, 1, 14, 14, 14, 14),
		} {
			reckons(t, x, w, b, weightsFor(w, s.C, 3, w.R+b))
		}
	}
}

func longSides(t *testing.T, b int) {
	for i, x := range []struct {
		s api.Shape
		w api.Window
	}{
		{shapeOf(2, 2, 4096), win(3, 2, 1, 1, 2, 1, 2, 1)}, {shapeOf(1, 1, 4095), win(5, 15, 15, 15, 4, 14, 4, 14)},
		{shapeOf(4096, 1, 1), win(3, 1, 1, 1, 1, 0, 1, 0)}, {shapeOf(1, 4096, 1), win(1, 3, 1, 1, 0, 1, 0, 1)},
		{shapeOf(4096, 2, 1), win(2, 1, 15, 1, 14, 0, 14, 0)}, {shapeOf(2, 4096, 65), win(1, 15, 1, 15, 0, 14, 0, 14)},
	} {
		reckons(t, someSigns(x.s, i), x.w, b, weightsFor(x.w, x.s.C, 2, i))
	}
}

// TestEachWeight: each weight alone counts where it lies, as plus and as minus.
func TestEachWeight(t *testing.T) {
	w := win(2, 3, 1, 2, 1, 2, 1, 1)
	for _, c := range []int{1, 3, 64, 65} {
		x := someSigns(shapeOf(3, 2, c), c)
		var weights [][]int8
		for i := range w.R * w.S * c {
			one := make([]int8, w.R*w.S*c)
			one[i] = int8(1 - i%2*2)
			weights = append(weights, one)
		}
		for _, b := range borders {
			reckons(t, x, w, b, weights)
		}
	}
}

// TestEachElement: each element counts where it lies, as plus among minuses and as minus among pluses.
func TestEachElement(t *testing.T) {
	w := win(2, 2, 1, 1, 1, 1, 1, 1)
	for _, s := range []api.Shape{shapeOf(3, 2, 3), shapeOf(2, 3, 65), shapeOf(2, 2, 64)} {
		weights := weightsFor(w, s.C, 2, s.C)
		for i := range s.H * s.W * s.C {
			one, others := evenly(s, -1), evenly(s, 1)
			one.vals[i], others.vals[i] = 1, -1
			for _, b := range borders {
				reckons(t, one, w, b, weights)
				reckons(t, others, w, b, weights)
			}
		}
	}
}

// TestOnlyBorder: a window that has nothing but the border before it, at each side and each corner, gives the border times all weights.
func TestOnlyBorder(t *testing.T) {
	for _, c := range channels {
		x := someSigns(shapeOf(2, 2, c), c)
		for _, edges := range [][4]int{{2, 0, 0, 0}, {0, 2, 0, 0}, {0, 0, 2, 0}, {0, 0, 0, 2}, {2, 2, 2, 2}, {3, 4, 4, 3}, {14, 14, 14, 14}} {
			w := win(2, 2, 1, 1, edges[:]...)
			weights := weightsFor(w, c, 3, c)
			for _, b := range borders {
				reckons(t, x, w, b, weights)
				for _, f := range ways {
					l, s, e := f.call(x.cube(), w, b, laidAll(c, weights))
					if e != api.OK || len(l) != s.H*s.W*3 {
						t.Fatalf("P14.2: %s: %d sums, %d", told(f.what, x.s, w, b), len(l), e)
					}
					borderAlone(t, told(f.what, x.s, w, b), l, s, w, b, weights)
				}
			}
		}
	}
}

// borderAlone fails unless the sums of windows of 2, 2 that see nothing of a tensor of 2, 2 are the border times all weights.
func borderAlone(t *testing.T, what string, l []int64, s api.Shape, w api.Window, border int, weights [][]int8) {
	t.Helper()
	some := false
	for i, n := range l {
		place, k := i/len(weights), i%len(weights)
		y, col := place/s.W-w.Top, place%s.W-w.Left
		if y > -2 && y < 2 && col > -2 && col < 2 {
			continue
		}
		some = true
		all := int64(0)
		for _, weight := range weights[k] {
			all += int64(weight)
		}
		if n != int64(border)*all {
			t.Errorf("P14.2: %s: sum %d is %d, not %d", what, i, n, int64(border)*all)
		}
	}
	if !some {
		t.Errorf("P14.2: %s: all windows see the tensor", what)
	}
}

// TestBetween: steps that lead from one border over the tensor into the other, so that no window sees the tensor, or just one.
func TestBetween(t *testing.T) {
	t.Parallel()
	for _, c := range channels {
		x := someSigns(shapeOf(1, 1, c), c)
		for _, b := range borders {
			for _, w := range []api.Window{
				win(1, 1, 2, 1, 1, 0, 1, 0), win(1, 1, 1, 2, 0, 1, 0, 1), win(1, 1, 2, 2, 1, 1, 1, 1), win(2, 2, 4, 4, 3, 3, 3, 3), win(1, 1, 7, 7, 14, 14, 14, 14),
				win(3, 2, 15, 15, 14, 3, 14, 14), win(1, 14, 1, 15, 0, 14, 0, 14), win(14, 14, 1, 1, 14, 14, 14, 14), win(7, 7, 7, 8, 14, 14, 14, 14),
			} {
				reckons(t, x, w, b, weightsFor(w, c, 2, w.S))
			}
		}
	}
}

// TestNoBorder: where the window has no borders, each of the three may be given, and all answer the same.
func TestNoBorder(t *testing.T) {
	for _, c := range channels {
		x := someSigns(shapeOf(4, 5, c), c)
		for _, w := range []api.Window{win(1, 1, 1, 1), win(2, 2, 1, 1), win(3, 2, 2, 3), win(4, 5, 1, 1), win(1, 5, 15, 15)} {
			weights := weightsFor(w, c, 3, w.R)
			is, shape := x.sums(w, 0, weights)
			for _, b := range borders {
				holdsFor(t, x, w, b, laidAll(c, weights), is, shape)
			}
		}
	}
}

// spoilt is a row with bits set behind each place's channels, as chance has them; in Sign only where they are in Some.
func spoilt(r api.Row, channels, seed int) api.Row {
	next := chance(seed)
	r.Sign.Words, r.Some.Words = slices.Clone(r.Sign.Words), slices.Clone(r.Some.Words)
	for i := range r.Some.Len {
		if i%(64*wordsOf(channels)) < channels {
			continue
		}
		bit, pick := uint64(1)<<(i%64), next(3)
		if pick > 0 {
			r.Some.Words[i/64] |= bit
		}
		if pick > 1 {
			r.Sign.Words[i/64] |= bit
		}
	}
	return r
}

// TestBitsBehindChannels: they count for no sum, at any border, whatever they are.
func TestBitsBehindChannels(t *testing.T) {
	for _, c := range []int{1, 2, 63, 64, 65, 127, 128, 129} {
		for _, w := range []api.Window{win(1, 1, 1, 1), win(2, 3, 1, 1, 1, 2, 1, 1), win(3, 2, 2, 1, 3, 2, 3, 2), win(3, 3, 1, 1)} {
			x, numbers := someSigns(shapeOf(3, 4, c), c), someNumbers(shapeOf(3, 4, c), c)
			weights := weightsFor(w, c, 4, c+w.R)
			rows := laidAll(c, weights)
			for k := range rows {
				rows[k] = spoilt(rows[k], c, k+w.S)
			}
			for _, b := range borders {
				is, shape := x.sums(w, b, weights)
				holdsFor(t, x, w, b, rows, is, shape)
				is, shape = numbers.sums(w, b, weights)
				l, s, e := conv.Numbers(numbers.s, numbers.vals, w, b, rows)
				want(t, told("P14.4: Numbers", numbers.s, w, b), l, s, e, is, shape)
			}
		}
	}
}

// TestAllBitsBehindChannels: rows that are pluses everywhere, and minuses everywhere, of which one channel a place counts.
func TestAllBitsBehindChannels(t *testing.T) {
	w := win(2, 2, 1, 1, 1, 1)
	ones := bitsOf(256, full, full, full, full)
	rows := []api.Row{{Sign: ones, Some: ones}, {Sign: bitsOf(256, 0, 0, 0, 0), Some: ones}}
	x := tensor{shapeOf(2, 2, 1), []int8{1, -1, 1, 1}}
	holdsFor(t, x, w, 0, rows, []int64{1, -1, 0, 0, 2, -2, 2, -2}, shapeOf(2, 2, 2))
	holdsFor(t, x, w, 1, rows, []int64{4, -4, 2, -2, 4, -4, 2, -2}, shapeOf(2, 2, 2))
	holdsFor(t, x, w, -1, rows, []int64{-2, 2, -2, 2, 0, 0, 2, -2}, shapeOf(2, 2, 2))
}
