package conv_test

import (
	"math"
	"slices"
	"strconv"
	"testing"

	"heddle/api"
	"heddle/conv"
	"heddle/cube"
	"heddle/dot"
	"heddle/shape"
)

// badCube is a cube that cube.Check refuses.
type badCube struct {
	what string
	c    api.Cube
	e    api.Errno
}

func badCubes() []badCube {
	words := func(n int) []uint64 { return make([]uint64, n) }
	return []badCube{
		{"no shape, no words", api.Cube{}, api.ErrShape},
		{"no rows", api.Cube{Shape: shapeOf(0, 2, 2)}, api.ErrShape},
		{"columns below 0", api.Cube{Shape: shapeOf(2, -1, 2), Words: words(2)}, api.ErrShape},
		{"no channels", api.Cube{Shape: shapeOf(2, 2, 0), Words: words(4)}, api.ErrShape},
		{"a side above 4096", api.Cube{Shape: shapeOf(1, 4097, 1), Words: words(4097)}, api.ErrShape},
		{"channels above 4096", api.Cube{Shape: shapeOf(1, 1, 4097), Words: words(65)}, api.ErrShape},
		{"the ends of int", api.Cube{Shape: shapeOf(math.MaxInt, math.MinInt, math.MaxInt)}, api.ErrShape},
		{"the greatest of int", api.Cube{Shape: shapeOf(math.MaxInt, math.MaxInt, math.MaxInt)}, api.ErrShape},
		{"too many elements", api.Cube{Shape: shapeOf(4096, 4096, 2)}, api.ErrBig},
		{"far too many elements", api.Cube{Shape: shapeOf(4096, 4096, 4096), Words: words(1)}, api.ErrBig},
		{"no words", api.Cube{Shape: shapeOf(2, 2, 1)}, api.ErrBits},
		{"a word too few", api.Cube{Shape: shapeOf(2, 2, 65), Words: words(7)}, api.ErrBits},
		{"a word too many", api.Cube{Shape: shapeOf(2, 2, 64), Words: words(5)}, api.ErrBits},
		{"a bit behind the first place's channels", api.Cube{Shape: shapeOf(1, 2, 3), Words: []uint64{8, 0}}, api.ErrBits},
		{"a bit behind the last place's channels", api.Cube{Shape: shapeOf(1, 2, 65), Words: []uint64{full, 1, full, 2}}, api.ErrBits},
	}
}

// badNumbers are shapes and numbers that Numbers refuses, with its error.
type badNumbers struct {
	what string
	s    api.Shape
	x    []int8
	e    api.Errno
}

func allBadNumbers() []badNumbers {
	many := func(n int) []int8 { return make([]int8, n) }
	var made []badNumbers
	for _, bad := range badCubes() {
		if bad.e != api.ErrBits {
			made = append(made, badNumbers{bad.what, bad.c.Shape, nil, bad.e}, badNumbers{bad.what + " and numbers", bad.c.Shape, many(4), bad.e})
		}
	}
	return append(made,
		badNumbers{"0 and 0 numbers", shapeOf(0, 0, 0), many(0), api.ErrShape},
		badNumbers{"no numbers", shapeOf(2, 2, 1), nil, api.ErrFit},
		badNumbers{"an empty list", shapeOf(1, 1, 1), many(0), api.ErrFit},
		badNumbers{"a number too few", shapeOf(2, 3, 65), many(2*3*65 - 1), api.ErrFit},
		badNumbers{"a number too many", shapeOf(2, 3, 65), many(2*3*65 + 1), api.ErrFit},
		badNumbers{"a number a word's bit", shapeOf(2, 2, 1), many(2 * 2 * 64), api.ErrFit},
		badNumbers{"2^24 but one", shapeOf(4096, 4096, 1), many(most - 1), api.ErrFit},
	)
}

// badWindows are such that may not be: each number below its range, above it, and at the ends of int.
func badWindows() []api.Window {
	var made []api.Window
	for _, n := range []int{0, -1, 16, math.MinInt, math.MaxInt} {
		made = append(made, win(n, 1, 1, 1), win(1, n, 1, 1), win(1, 1, n, 1), win(1, 1, 1, n), win(n, n, n, n, n, n, n, n))
	}
	for _, n := range []int{-1, 15, math.MinInt, math.MaxInt} {
		made = append(made, win(1, 1, 1, 1, n), win(1, 1, 1, 1, 0, n), win(1, 1, 1, 1, 0, 0, n), win(1, 1, 1, 1, 0, 0, 0, n))
	}
	return append(made, api.Window{}, win(15, 15, 1, 1, 15), win(15, 15, 1, 1, 0, 0, 0, -1), win(15, 16, 1, 1), win(15, 15, 1, 0))
}

// badBorders are none of -1, 0, 1.
var badBorders = []int{2, -2, 3, -3, 127, 255, 256, -256, 1 << 32, 1<<32 + 1, 1<<62 + 1, math.MaxInt, math.MaxInt - 1, math.MinInt, math.MinInt + 1}

// badRow is a row that dot.Check refuses, or that is not as long as a patch of 256 bits.
type badRow struct {
	what string
	r    api.Row
	e    api.Errno
}

// kindRows are refused by dot.Check.
func kindRows() []badRow {
	good := bitsOf(256, 5, 1, 0, full)
	some := bitsOf(256, full, full, full, full)
	list := []badRow{
		{"Sign where Some is not", api.Row{Sign: bitsOf(256, 4, 0, 0, 0), Some: bitsOf(256, 3, 0, 0, 0)}, api.ErrKind},
		{"Sign where Some is not, in the last bit", api.Row{Sign: bitsOf(256, 0, 0, 0, 1<<63), Some: bitsOf(256, full, full, full, full>>1)}, api.ErrKind},
		{"Sign where Some is not, behind the channels", api.Row{Sign: bitsOf(256, 0, 1<<9, 0, 0), Some: bitsOf(256, 1, 1, 1, 1)}, api.ErrKind},
		{"Sign where Some is not, another Len", api.Row{Sign: bitsOf(3, 2), Some: bitsOf(3, 1)}, api.ErrKind},
		{"two lengths", api.Row{Sign: good, Some: bitsOf(257, full, full, full, full, 1)}, api.ErrBits},
		{"two lengths, the other way", api.Row{Sign: bitsOf(255, 0, 0, 0, 0), Some: some}, api.ErrBits},
		{"a bit of Some behind the end", api.Row{Sign: bitsOf(250, 0, 0, 0, 0), Some: bitsOf(250, 0, 0, 0, 1<<63)}, api.ErrBits},
		{"a bit behind the end and Sign where Some is not", api.Row{Sign: bitsOf(70, 8, 0), Some: bitsOf(70, 4, 64)}, api.ErrBits},
		{"a word of Sign missing", api.Row{Sign: bitsOf(256, 1, 1, 1), Some: some}, api.ErrBits},
		{"a word of Some missing", api.Row{Sign: good, Some: bitsOf(256, full, full, full)}, api.ErrBits},
		{"no words", api.Row{Sign: bitsOf(256), Some: bitsOf(256)}, api.ErrBits},
		{"a word too many", api.Row{Sign: bitsOf(256, 5, 1, 0, 0, 0), Some: bitsOf(256, 5, 1, 0, 0, 0)}, api.ErrBits},
	}
	for _, n := range []int{-1, most + 1, math.MinInt, math.MaxInt} {
		list = append(list, badRow{"Len " + strconv.Itoa(n), api.Row{Sign: bitsOf(n), Some: bitsOf(n)}, api.ErrBits})
	}
	return list
}

// lenRows may be, but are no patch of 256 bits.
func lenRows() []badRow {
	var made []badRow
	for _, n := range []int{0, 1, 4, 63, 64, 192, 255, 257, 320, 512} {
		words := bitsOf(n, make([]uint64, (n+63)/64)...)
		made = append(made, badRow{"Len " + strconv.Itoa(n), api.Row{Sign: words, Some: words}, api.ErrBits})
	}
	return made
}

func badRows() []badRow { return append(kindRows(), lenRows()...) }

// call is one of the four calls, handed a tensor.
type call struct {
	what string
	of   func(x tensor, w api.Window, border int, rows []api.Row) ([]int64, api.Shape, api.Errno)
}

func allCalls() []call {
	made := []call{{"Numbers", func(x tensor, w api.Window, border int, rows []api.Row) ([]int64, api.Shape, api.Errno) {
		return conv.Numbers(x.s, x.vals, w, border, rows)
	}}}
	for _, f := range ways {
		made = append(made, call{f.what, func(x tensor, w api.Window, border int, rows []api.Row) ([]int64, api.Shape, api.Errno) {
			return f.call(x.cube(), w, border, rows)
		}})
	}
	return made
}

// rowLists are some as long as a window of 2, 2 over one channel wants them, none, too many, and such as may not be.
func rowLists() [][]api.Row {
	good := laid(1, []int8{1, -1, 0, 1})
	made := [][]api.Row{nil, {}, {good}, {good, good}, slices.Repeat([]api.Row{good}, 4096), slices.Repeat([]api.Row{good}, 4097)}
	for _, bad := range []badRow{kindRows()[0], kindRows()[4], lenRows()[0], lenRows()[7]} {
		made = append(made, []api.Row{bad.r}, []api.Row{good, bad.r}, slices.Repeat([]api.Row{bad.r}, 4097))
	}
	return made
}

// TestTensorFirst: what is wrong with the tensor is told ahead of all else, and where all else may be.
func TestTensorFirst(t *testing.T) {
	t.Parallel()
	windows := append(badWindows(), win(1, 1, 1, 1), win(2, 2, 1, 1), win(15, 15, 1, 1), win(15, 15, 1, 1, 14, 14, 14, 14))
	lists, cubes, numbers := rowLists(), badCubes(), allBadNumbers()
	for i, w := range windows {
		for k, b := range append(badBorders, borders...) {
			rows := lists[(i+k)%len(lists)]
			for _, bad := range cubes {
				for _, f := range ways {
					l, s, e := f.call(bad.c, w, b, rows)
					refused(t, f.what+", "+bad.what, l, s, e, bad.e)
				}
			}
			for _, bad := range numbers {
				l, s, e := conv.Numbers(bad.s, bad.x, w, b, rows)
				refused(t, "Numbers, "+bad.what, l, s, e, bad.e)
			}
		}
	}
}

// TestTensorAlone: the same with nothing else wrong, and with each list of rows.
func TestTensorAlone(t *testing.T) {
	t.Parallel()
	numbers := allBadNumbers()
	for _, rows := range rowLists() {
		for _, bad := range badCubes() {
			if e := cube.Check(bad.c); e != bad.e {
				t.Fatalf("P12.1: Check of %s: %d", bad.what, e)
			}
			for _, f := range ways {
				l, s, e := f.call(bad.c, win(2, 2, 1, 1, 1, 1, 1, 1), 0, rows)
				refused(t, f.what+", "+bad.what, l, s, e, bad.e)
			}
		}
		for _, bad := range numbers {
			for _, w := range []api.Window{win(2, 2, 1, 1, 1, 1, 1, 1), win(0, 1, 1, 1), win(15, 15, 1, 1)} {
				for _, b := range []int{0, 2} {
					l, s, e := conv.Numbers(bad.s, bad.x, w, b, rows)
					refused(t, "Numbers, "+bad.what, l, s, e, bad.e)
				}
			}
		}
	}
}

// TestRowsMany: no rows, or more than MaxSide, are told ahead of what the window, the border and the rows are.
func TestRowsMany(t *testing.T) {
	x := someSigns(shapeOf(3, 3, 1), 1)
	windows := append(badWindows(), win(2, 2, 1, 1), win(4, 4, 1, 1), win(15, 15, 1, 1))
	for _, rows := range rowLists() {
		if len(rows) > 0 && len(rows) <= api.MaxSide {
			continue
		}
		for _, f := range allCalls() {
			for _, w := range windows {
				for _, b := range []int{0, 1, -1, 2, math.MinInt} {
					l, s, e := f.of(x, w, b, rows)
					refused(t, f.what+", "+strconv.Itoa(len(rows))+" rows", l, s, e, api.ErrShape)
				}
			}
			for _, s := range []api.Shape{shapeOf(4096, 1, 1), shapeOf(1, 4096, 1), shapeOf(4096, 2, 1)} {
				l, s, e := f.of(evenly(s, 1), win(1, 1, 1, 1, 1, 1), 2, rows)
				refused(t, f.what+", "+strconv.Itoa(len(rows))+" rows, a long side", l, s, e, api.ErrShape)
			}
		}
	}
}

// TestWindowsThatMayNotBe: ahead of the border and the rows, also where nothing would fit, or there would be too much.
func TestWindowsThatMayNotBe(t *testing.T) {
	shapes := []api.Shape{shapeOf(1, 1, 1), shapeOf(3, 3, 65), shapeOf(20, 20, 1), shapeOf(4096, 1, 1), shapeOf(1, 4096, 2)}
	for _, rows := range rowLists() {
		if len(rows) == 0 || len(rows) > api.MaxSide {
			continue
		}
		for _, s := range shapes {
			x := evenly(s, 1)
			for _, f := range allCalls() {
				for i, w := range badWindows() {
					b := append(badBorders, borders...)[i%18]
					l, s, e := f.of(x, w, b, rows)
					refused(t, f.what+", a window that may not be", l, s, e, api.ErrWindow)
				}
			}
		}
	}
}

// misfit is a shape, a window and a number of rows that may be, where shape.Slide refuses.
type misfit struct {
	what string
	s    api.Shape
	w    api.Window
	many int
	e    api.Errno
}

var misfits = []misfit{
	{"too few rows", shapeOf(2, 3, 1), win(3, 3, 1, 1), 1, api.ErrFit},
	{"too few columns", shapeOf(3, 2, 65), win(3, 3, 1, 1), 2, api.ErrFit},
	{"too few of both", shapeOf(1, 1, 64), win(15, 15, 15, 15, 7, 7, 6, 6), 1, api.ErrFit},
	{"rows that fit, columns that do not", shapeOf(2, 2, 1), win(3, 3, 1, 1, 0, 0, 1, 0), 4096, api.ErrFit},
	{"too few rows, too many columns", shapeOf(1, 4096, 1), win(2, 1, 1, 1, 0, 0, 0, 1), 1, api.ErrFit},
	{"too few columns, too many rows and sums", shapeOf(4096, 1, 1), win(1, 2, 1, 1, 1), 4096, api.ErrFit},
	{"4097 rows", shapeOf(4096, 1, 1), win(1, 1, 1, 1, 1), 1, api.ErrShape},
	{"4097 columns", shapeOf(1, 4096, 1), win(1, 1, 1, 1, 0, 0, 0, 1), 1, api.ErrShape},
	{"4097 rows, too many sums", shapeOf(4096, 2, 1), win(1, 1, 1, 1, 0, 0, 1, 0), 4096, api.ErrShape},
	{"4110 columns, too many sums", shapeOf(2, 4096, 1), win(15, 15, 1, 1, 14, 14, 14, 14), 4096, api.ErrShape},
	{"2^25 sums", shapeOf(4096, 2, 1), win(1, 1, 1, 1), 4096, api.ErrBig},
	{"a place too many", shapeOf(4096, 1, 1), win(1, 1, 1, 1, 0, 0, 0, 1), 2049, api.ErrBig},
	{"a row too many", shapeOf(64, 128, 1), win(1, 1, 1, 1), 2049, api.ErrBig},
	{"2^24 and 4096 sums", shapeOf(17, 241, 1), win(1, 1, 1, 1), 4096, api.ErrBig},
}

// TestMisfits: ahead of the border and the rows, in the order in which Slide tells them.
func TestMisfits(t *testing.T) {
	for _, m := range misfits {
		if _, e := shape.Slide(m.s, m.w, m.many); e != m.e {
			t.Fatalf("P3.6: Slide, %s: %d", m.what, e)
		}
		good := laid(m.s.C, make([]int8, m.w.R*m.w.S*m.s.C))
		for _, r := range []api.Row{good, kindRows()[0].r, lenRows()[0].r, kindRows()[4].r} {
			rows := slices.Repeat([]api.Row{r}, m.many)
			for _, f := range allCalls() {
				for _, b := range []int{0, 1, -1, 2, -2, math.MaxInt, math.MinInt} {
					l, s, e := f.of(evenly(m.s, 1), m.w, b, rows)
					refused(t, f.what+", "+m.what, l, s, e, m.e)
				}
			}
		}
	}
}

// TestBorders: one that may not be is told ahead of the rows, whether the window has borders or not.
func TestBorders(t *testing.T) {
	x := someSigns(shapeOf(3, 3, 1), 1)
	for _, rows := range rowLists() {
		if len(rows) == 0 || len(rows) > api.MaxSide {
			continue
		}
		for _, b := range badBorders {
			for _, w := range []api.Window{win(2, 2, 1, 1), win(2, 2, 1, 1, 1, 1, 1, 1), win(1, 1, 1, 1)} {
				for _, f := range allCalls() {
					l, s, e := f.of(x, w, b, rows)
					refused(t, f.what+", the border "+strconv.Itoa(b), l, s, e, api.ErrWindow)
				}
			}
		}
	}
}

// TestOneRow: each fault at each of some rows.
func TestOneRow(t *testing.T) {
	x, w := someSigns(shapeOf(3, 3, 1), 1), win(2, 2, 1, 1, 1, 1, 1, 1)
	good := laid(1, []int8{1, -1, 0, 1})
	for _, bad := range badRows() {
		is := bad.e
		if e := dot.Check(bad.r); e != api.OK && e != is {
			t.Fatalf("P10.1: Check, %s: %d", bad.what, e)
		}
		for many := 1; many < 5; many++ {
			for at := range many {
				rows := slices.Repeat([]api.Row{good}, many)
				rows[at] = bad.r
				for _, f := range allCalls() {
					for _, b := range borders {
						l, s, e := f.of(x, w, b, rows)
						refused(t, f.what+", row "+strconv.Itoa(at)+": "+bad.what, l, s, e, is)
					}
				}
			}
		}
	}
}

// TestTwoRows: of two faults the one of the first row counts, whichever it is; of one row dot.Check's is told ahead of its Len.
func TestTwoRows(t *testing.T) {
	x, w := someSigns(shapeOf(3, 3, 1), 1), win(2, 2, 1, 1, 1, 1, 1, 1)
	good := laid(1, []int8{1, -1, 0, 1})
	for _, a := range badRows() {
		for _, b := range badRows() {
			for _, f := range allCalls() {
				for _, rows := range [][]api.Row{{a.r, b.r}, {good, a.r, good, b.r}, {a.r, good, b.r}} {
					l, s, e := f.of(x, w, 0, rows)
					refused(t, f.what+", "+a.what+"; "+b.what, l, s, e, a.e)
				}
			}
		}
	}
}

// TestLens: a row has the Len of a patch and no other, whatever the window and the channels: not that of the weights without gaps, nor that of another window of as many places but one.
func TestLens(t *testing.T) {
	t.Parallel()
	for _, c := range channels {
		for _, w := range []api.Window{win(1, 1, 1, 1), win(2, 3, 1, 1), win(3, 2, 1, 1, 1, 1, 1, 1), win(15, 15, 1, 1, 14, 14, 14, 14)} {
			x := evenly(shapeOf(3, 3, c), 1)
			right := w.R * w.S * 64 * wordsOf(c)
			for _, n := range []int{right, right - 1, right + 1, right - 64, right + 64, w.R * w.S * c, 2 * right, right / 2, 64 * w.R * w.S, 64 * wordsOf(c)} {
				words := bitsOf(n, make([]uint64, (n+63)/64)...)
				rows := []api.Row{{Sign: words, Some: words}}
				for _, f := range allCalls() {
					l, s, e := f.of(x, w, 0, rows)
					if n != right {
						refused(t, f.what+", Len "+strconv.Itoa(n), l, s, e, api.ErrBits)
						continue
					}
					high, wide := given(x.s, w)
					want(t, told("P14.1: "+f.what, x.s, w, 0), l, s, e, make([]int64, high*wide), shapeOf(high, wide, 1))
				}
			}
		}
	}
}

// TestRowsMost: one row, MaxSide of them, and 2^24 sums are answered.
func TestRowsMost(t *testing.T) {
	t.Parallel()
	w := win(1, 1, 1, 1)
	for _, f := range allCalls() {
		t.Run(f.what, func(t *testing.T) {
			t.Parallel()
			for _, s := range []api.Shape{shapeOf(1, 1, 1), shapeOf(1, 3, 65), shapeOf(64, 64, 2)} {
				x := someSigns(s, s.H)
				weights := weightsFor(w, s.C, api.MaxSide, s.W)
				is, shape := x.sums(w, 0, weights)
				l, sh, e := f.of(x, w, 0, laidAll(s.C, weights))
				want(t, told("P14.1: "+f.what, s, w, 0), l, sh, e, is, shape)
			}
		})
	}
}
