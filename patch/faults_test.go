package patch_test

import (
	"math"
	"runtime"
	"slices"
	"strconv"
	"testing"

	"heddle/api"
	"heddle/cube"
	"heddle/dot"
	"heddle/patch"
	"heddle/shape"
)

// noSight fails unless See answered just that error, and zero values beside it.
func noSight(t *testing.T, what string, l []api.Row, s api.Shape, e, is api.Errno) {
	t.Helper()
	if e != is || len(l) != 0 || s != (api.Shape{}) {
		t.Errorf("P13.1: See, %s = %d patches, %v, %d, not %d", what, len(l), s, e, is)
	}
}

// noRow fails unless Spread answered just that error, and a zero row beside it.
func noRow(t *testing.T, what string, r api.Row, e, is api.Errno) {
	t.Helper()
	if e != is || r.Sign.Len != 0 || r.Some.Len != 0 || len(r.Sign.Words) != 0 || len(r.Some.Words) != 0 {
		t.Errorf("P13.3: Spread, %s = Len %d and %d, %d, not %d", what, r.Sign.Len, r.Some.Len, e, is)
	}
}

// badCube is a cube that cube.Check refuses.
type badCube struct {
	what string
	c    api.Cube
	e    api.Errno
}

func badCubes() []badCube {
	words := func(n int) []uint64 { return make([]uint64, n) }
	return []badCube{
		{"no shape, no words", api.Cube{}, api.ErrShape},
		{"no rows", api.Cube{Shape: shapeOf(0, 2, 2)}, api.ErrShape},
		{"columns below 0", api.Cube{Shape: shapeOf(2, -1, 2), Words: words(2)}, api.ErrShape},
		{"no channels", api.Cube{Shape: shapeOf(2, 2, 0), Words: words(4)}, api.ErrShape},
		{"a side above 4096", api.Cube{Shape: shapeOf(1, 4097, 1), Words: words(4097)}, api.ErrShape},
		{"channels above 4096", api.Cube{Shape: shapeOf(1, 1, 4097), Words: words(65)}, api.ErrShape},
		{"the ends of int", api.Cube{Shape: shapeOf(math.MaxInt, math.MinInt, math.MaxInt)}, api.ErrShape},
		{"the greatest of int", api.Cube{Shape: shapeOf(math.MaxInt, math.MaxInt, math.MaxInt)}, api.ErrShape},
		{"too many elements", api.Cube{Shape: shapeOf(4096, 4096, 2)}, api.ErrBig},
		{"far too many elements", api.Cube{Shape: shapeOf(4096, 4096, 4096), Words: words(1)}, api.ErrBig},
		{"no words", api.Cube{Shape: shapeOf(2, 2, 1)}, api.ErrBits},
		{"a word too few", api.Cube{Shape: shapeOf(2, 2, 65), Words: words(7)}, api.ErrBits},
		{"a word too many", api.Cube{Shape: shapeOf(2, 2, 64), Words: words(5)}, api.ErrBits},
		{"a bit behind the first place's channels", api.Cube{Shape: shapeOf(1, 2, 3), Words: []uint64{8, 0}}, api.ErrBits},
		{"a bit behind the last place's channels", api.Cube{Shape: shapeOf(1, 2, 65), Words: []uint64{full, 1, full, 2}}, api.ErrBits},
	}
}

// badWindows are such that may not be: each number below its range, above it, and at the ends of int.
func badWindows() []api.Window {
	var made []api.Window
	for _, n := range []int{0, -1, 16, math.MinInt, math.MaxInt} {
		made = append(made, win(n, 1, 1, 1), win(1, n, 1, 1), win(1, 1, n, 1), win(1, 1, 1, n), win(n, n, n, n, n, n, n, n))
	}
	for _, n := range []int{-1, 15, math.MinInt, math.MaxInt} {
		made = append(made, win(1, 1, 1, 1, n), win(1, 1, 1, 1, 0, n), win(1, 1, 1, 1, 0, 0, n), win(1, 1, 1, 1, 0, 0, 0, n))
	}
	// Over a cube of some size these would see too much too.
	return append(made, api.Window{}, win(15, 15, 1, 1, 15), win(15, 15, 1, 1, 0, 0, 0, -1), win(15, 16, 1, 1), win(15, 15, 1, 0))
}

// badBorders are none of -1, 0, 1.
var badBorders = []int{2, -2, 3, -3, 127, 255, 256, -256, 1 << 32, 1<<32 + 1, 1<<62 + 1, math.MaxInt, math.MaxInt - 1, math.MinInt, math.MinInt + 1}

// pair is a cube and a window over it.
type pair struct {
	what string
	c    api.Cube
	w    api.Window
}

// blankCube is a cube of minuses.
func blankCube(h, w, c int) api.Cube {
	return api.Cube{Shape: shapeOf(h, w, c), Words: make([]uint64, h*w*wordsOf(c))}
}

// misfits are windows that may be, over cubes that may be, where shape.Slide refuses, with its error.
func misfits() map[api.Errno][]pair {
	return map[api.Errno][]pair{
		api.ErrFit: {
			{"too few rows", blankCube(2, 3, 1), win(3, 3, 1, 1)},
			{"too few columns", blankCube(3, 2, 65), win(3, 3, 1, 1)},
			{"too few of both", blankCube(1, 1, 64), win(15, 15, 15, 15, 7, 7, 6, 6)},
			{"rows that fit, columns that do not", blankCube(2, 2, 1), win(3, 3, 1, 1, 0, 0, 1, 0)},
			{"too few rows, too many columns", blankCube(1, 4096, 1), win(2, 1, 1, 1, 0, 0, 0, 1)},
		},
		api.ErrShape: {
			{"4097 rows", blankCube(4096, 1, 1), win(1, 1, 1, 1, 1)},
			{"4097 columns", blankCube(1, 4096, 1), win(1, 1, 1, 1, 0, 0, 0, 1)},
			{"4097 rows and columns", blankCube(4096, 4096, 1), win(1, 1, 1, 1, 1, 1)},
			{"4097 rows, too many words", blankCube(4096, 1100, 1), win(1, 1, 1, 1, 0, 0, 1, 0)},
			{"4110 rows, far too many words", blankCube(4096, 2, 2000), win(15, 15, 1, 1, 14, 14, 14, 14)},
		},
	}
}

func TestSeeRefusesCubes(t *testing.T) {
	for _, bad := range badCubes() {
		if e := cube.Check(bad.c); e != bad.e {
			t.Fatalf("P12.1: Check of %s: %d", bad.what, e)
		}
		windows := append(badWindows(), win(1, 1, 1, 1), win(15, 15, 1, 1), win(15, 15, 1, 1, 14, 14, 14, 14))
		for _, w := range windows {
			for _, b := range slices.Concat(badBorders, borders) {
				l, s, e := patch.See(bad.c, w, b)
				noSight(t, bad.what, l, s, e, bad.e)
			}
		}
	}
}

// TestSeeRefusesWindows: also with a wrong border, and where nothing would fit or all would be too big.
func TestSeeRefusesWindows(t *testing.T) {
	for _, c := range []api.Cube{blankCube(1, 1, 1), blankCube(2, 2, 65), blankCube(20, 20, 1), blankCube(200, 200, 1), blankCube(4096, 1, 64)} {
		for _, w := range badWindows() {
			for _, b := range slices.Concat(badBorders, borders) {
				l, s, e := patch.See(c, w, b)
				noSight(t, "a window that may not be", l, s, e, api.ErrWindow)
			}
		}
	}
}

// TestSeeRefusesBorders: beside each fault that is told behind it.
func TestSeeRefusesBorders(t *testing.T) {
	good := someTensor(shapeOf(3, 3, 65), 1).cube()
	behind := misfits()
	for _, b := range badBorders {
		for _, w := range []api.Window{win(1, 1, 1, 1), win(2, 2, 1, 1, 1, 1, 1, 1)} {
			l, s, e := patch.See(good, w, b)
			noSight(t, "the border "+strconv.Itoa(b), l, s, e, api.ErrWindow)
		}
		for _, l := range behind {
			for _, p := range l {
				l, s, e := patch.See(p.c, p.w, b)
				noSight(t, p.what+", the border "+strconv.Itoa(b), l, s, e, api.ErrWindow)
			}
		}
		l, s, e := patch.See(blankCube(200, 200, 1), win(15, 15, 1, 1), b)
		noSight(t, "too many words, the border "+strconv.Itoa(b), l, s, e, api.ErrWindow)
	}
}

// TestSeeRefusesMisfits: also where there would be too many words.
func TestSeeRefusesMisfits(t *testing.T) {
	for is, l := range misfits() {
		for _, p := range l {
			if _, e := shape.Slide(p.c.Shape, p.w, 1); e != is {
				t.Fatalf("P3.6: Slide, %s: %d", p.what, e)
			}
			for _, b := range borders {
				l, s, e := patch.See(p.c, p.w, b)
				noSight(t, p.what, l, s, e, is)
			}
		}
	}
}

// cubeFor is a cube of minuses over which a window gives so many rows and columns.
func cubeFor(w api.Window, channels, rows, cols int) api.Cube {
	return blankCube((rows-1)*w.StepY+w.R-w.Top-w.Bottom, (cols-1)*w.StepX+w.S-w.Left-w.Right, channels)
}

// limit is a window and a number of channels, with rows and columns of which all patches have 2^22 words, or the most that can be below, and with those that are too many by a patch, or by as few as can be.
type limit struct {
	w                  api.Window
	channels           int
	rows, cols         int
	overRows, overCols int
}

var limits = []limit{
	{win(1, 1, 1, 1), 1, 2048, 2048, 1985, 2113},
	{win(4, 4, 1, 1, 9, 1, 2, 13), 64, 512, 512, 481, 545},
	{win(4, 4, 3, 2), 1, 512, 512, 481, 545},
	{win(8, 8, 1, 1, 3, 4, 4, 3), 4096, 32, 32, 25, 41},
	{win(8, 8, 1, 1, 7, 7, 7, 7), 65, 128, 256, 99, 331},
	{win(15, 15, 1, 1), 1, 7, 2663, 78, 239},
	{win(15, 15, 1, 1, 7, 7, 7, 7), 4096, 3, 97, 4, 73},
	{win(3, 3, 1, 2, 0, 1, 1, 0), 1, 584, 798, 526, 886},
}

// TestSeeMostWords: just 2^22 words are told.
func TestSeeMostWords(t *testing.T) {
	for _, x := range limits {
		c := cubeFor(x.w, x.channels, x.rows, x.cols)
		l, s, e := patch.See(c, x.w, -1)
		if e != api.OK || len(l) != x.rows*x.cols || s != shapeOf(x.rows, x.cols, 1) {
			t.Errorf("P13.1: See of %v, %+v: %d patches, %v, %d", c.Shape, x.w, len(l), s, e)
			continue
		}
		minuses := laid(x.channels, slices.Repeat([]int8{-1}, x.w.R*x.w.S*x.channels))
		for i, p := range l {
			if !sameRow(p, minuses) {
				t.Errorf("P13.1: See of %v, %+v, all minuses: another patch %d", c.Shape, x.w, i)
				break
			}
		}
	}
}

// took is how many bytes a call takes from memory.
func took(call func()) uint64 {
	var before, after runtime.MemStats
	runtime.ReadMemStats(&before)
	call()
	runtime.ReadMemStats(&after)
	return after.TotalAlloc - before.TotalAlloc
}

// TestSeeTooManyWords: a patch more, or many more, and that is told without making them.
func TestSeeTooManyWords(t *testing.T) {
	type asked struct {
		c api.Cube
		w api.Window
	}
	var list []asked
	for _, x := range limits {
		list = append(list, asked{cubeFor(x.w, x.channels, x.overRows, x.overCols), x.w})
		list = append(list, asked{cubeFor(x.w, x.channels, x.rows, x.cols+1), x.w})
	}
	list = append(list,
		asked{blankCube(2048, 2048, 1), win(1, 1, 1, 1, 0, 0, 0, 1)},
		asked{blankCube(2048, 2048, 1), win(1, 1, 1, 1, 1)},
		asked{blankCube(4096, 4096, 1), win(1, 1, 1, 1)},
		asked{blankCube(4096, 4096, 1), win(15, 15, 1, 1, 7, 7, 7, 7)},
		asked{blankCube(2048, 4096, 2), win(15, 15, 1, 1, 14, 14, 0, 0)},
		asked{blankCube(1, 4096, 4096), win(15, 15, 1, 1, 14, 7, 14, 7)},
	)
	for _, x := range list {
		for _, b := range borders {
			bytes := took(func() {
				l, s, e := patch.See(x.c, x.w, b)
				noSight(t, "too many words", l, s, e, api.ErrBig)
			})
			if bytes > 1<<16 {
				t.Errorf("P13.1: See of %v, %+v is refused, but took %d bytes", x.c.Shape, x.w, bytes)
			}
		}
	}
}

// badRow is a row that dot.Check refuses.
type badRow struct {
	what string
	r    api.Row
	e    api.Errno
}

func badRows() []badRow {
	good := bitsOf(70, 5, 1)
	list := []badRow{
		{"Sign where Some is not", api.Row{Sign: bitsOf(70, 4, 0), Some: bitsOf(70, 3, 0)}, api.ErrKind},
		{"Sign where Some is not, in the last word", api.Row{Sign: bitsOf(70, 0, 32), Some: bitsOf(70, full, 31)}, api.ErrKind},
		{"Sign where Some is not, another Len", api.Row{Sign: bitsOf(3, 2), Some: bitsOf(3, 1)}, api.ErrKind},
		{"two lengths", api.Row{Sign: good, Some: bitsOf(71, full, 1)}, api.ErrBits},
		{"two lengths, the other way", api.Row{Sign: bitsOf(69, 0, 0), Some: good}, api.ErrBits},
		{"a bit of Sign behind the end", api.Row{Sign: bitsOf(70, 0, 64), Some: good}, api.ErrBits},
		{"a bit of Some behind the end", api.Row{Sign: good, Some: bitsOf(70, full, full)}, api.ErrBits},
		{"a bit behind the end and Sign where Some is not", api.Row{Sign: bitsOf(70, 8, 0), Some: bitsOf(70, 4, 64)}, api.ErrBits},
		{"a word of Sign missing", api.Row{Sign: bitsOf(70, 1), Some: good}, api.ErrBits},
		{"a word of Some missing", api.Row{Sign: good, Some: bitsOf(70, 5)}, api.ErrBits},
		{"no words", api.Row{Sign: bitsOf(70), Some: bitsOf(70)}, api.ErrBits},
		{"a word too many", api.Row{Sign: bitsOf(70, 5, 1, 0), Some: bitsOf(70, 5, 1, 0)}, api.ErrBits},
	}
	for _, n := range []int{-1, most + 1, math.MinInt, math.MaxInt} {
		list = append(list, badRow{"Len " + strconv.Itoa(n), api.Row{Sign: bitsOf(n), Some: bitsOf(n)}, api.ErrBits})
		list = append(list, badRow{"Len " + strconv.Itoa(n) + " and a word", api.Row{Sign: bitsOf(n, 1), Some: bitsOf(n, 1)}, api.ErrBits})
	}
	return list
}

// notLost fails unless Lost refuses just so.
func notLost(t *testing.T, what string, r, seen api.Row, is api.Errno) {
	t.Helper()
	if n, e := patch.Lost(r, seen); n != 0 || e != is {
		t.Errorf("P13.2: Lost, %s = %d, %d, not %d", what, n, e, is)
	}
}

// TestLostRefuses: each fault at either row, and beside each fault of the other row, of which the first one's is told.
func TestLostRefuses(t *testing.T) {
	good := flat(t, someWeights(70, 1))
	for _, a := range badRows() {
		if e := dot.Check(a.r); e != a.e {
			t.Fatalf("P10.1: Check of %s: %d", a.what, e)
		}
		notLost(t, "the first row, "+a.what, a.r, good, a.e)
		notLost(t, "the second row, "+a.what, good, a.r, a.e)
		for _, b := range badRows() {
			notLost(t, a.what+"; "+b.what, a.r, b.r, a.e)
		}
	}
}

// TestLostRefusesLengths: rows that may be, of two Lens, and beside a row that may not be.
func TestLostRefusesLengths(t *testing.T) {
	lens := []int{0, 1, 2, 63, 64, 65, 70, 71, 127, 128, 129}
	for _, n := range lens {
		for _, m := range lens {
			a, b := flat(t, someWeights(n, n)), flat(t, someWeights(m, m))
			if n == m {
				if _, e := patch.Lost(a, b); e != api.OK {
					t.Errorf("P13.2: Lost of two rows of Len %d = %d", n, e)
				}
				continue
			}
			notLost(t, "Lens that differ", a, b, api.ErrBits)
		}
		for _, bad := range badRows() {
			notLost(t, "Lens that differ, the first row, "+bad.what, bad.r, flat(t, someWeights(n, n)), bad.e)
			notLost(t, "Lens that differ, the second row, "+bad.what, flat(t, someWeights(n, n)), bad.r, bad.e)
		}
	}
	notLost(t, "no bits and 2^24", api.Row{}, flat(t, make([]int8, most)), api.ErrBits)
}

// badWeights are none of -1, 0, 1.
var badWeights = []int8{2, -2, 3, -3, 127, -127, -128}

// TestSpreadRefusesChannels: beside each other fault, and where there is none.
func TestSpreadRefusesChannels(t *testing.T) {
	for _, n := range []int{0, -1, -2, -64, -4096, 4097, 4098, 8192, 1 << 32, 1<<32 + 1, math.MinInt, math.MinInt + 1, math.MaxInt, math.MaxInt - 1} {
		for _, w := range [][]int8{nil, {}, {1}, {1, 0}, {2}, {-128, 1, 1}, make([]int8, 4097), make([]int8, 4098), make([]int8, 8192), make([]int8, 1<<18+1)} {
			r, e := patch.Spread(n, w...)
			noRow(t, strconv.Itoa(n)+" channels, "+strconv.Itoa(len(w))+" weights", r, e, api.ErrArg)
		}
	}
}

// TestSpreadTakesChannels: those at the ends of their range.
func TestSpreadTakesChannels(t *testing.T) {
	for _, n := range []int{1, 64, 65, 4095, 4096} {
		w := someWeights(2*n, n)
		r, e := patch.Spread(n, w...)
		wantRow(t, "P13.3: Spread at the ends of the channels", r, e, laid(n, w))
	}
}

// TestSpreadRefusesNumbers: no weights, and numbers that the channels do not divide, also of wrong weights and where the row would be too long.
func TestSpreadRefusesNumbers(t *testing.T) {
	for _, n := range []int{1, 2, 3, 63, 64, 65, 4095, 4096} {
		r, e := patch.Spread(n)
		noRow(t, "no weights", r, e, api.ErrFit)
		r, e = patch.Spread(n, []int8{}...)
		noRow(t, "an empty list", r, e, api.ErrFit)
		if n == 1 {
			continue
		}
		for _, many := range []int{1, n - 1, n + 1, 2*n - 1, 2*n + 1, n<<18/wordsOf(n) + 1, n<<18/wordsOf(n) - 1} {
			for _, v := range append([]int8{0, 1}, badWeights...) {
				r, e := patch.Spread(n, slices.Repeat([]int8{v}, many)...)
				noRow(t, strconv.Itoa(n)+" channels, "+strconv.Itoa(many)+" weights", r, e, api.ErrFit)
			}
		}
	}
}

// TestSpreadMostBits: just 2^24 bits are told; a place more is refused, also if a weight is wrong.
func TestSpreadMostBits(t *testing.T) {
	for _, n := range []int{1, 63, 64, 65, 4096} {
		places := most / (64 * wordsOf(n))
		w := make([]int8, n*places, n*places+n)
		w[0], w[len(w)-1] = 1, -1
		r, e := patch.Spread(n, w...)
		wantRow(t, "P13.3: Spread of the most bits", r, e, laid(n, w))
		more := append(w, make([]int8, n)...)
		r, e = patch.Spread(n, more...)
		noRow(t, "a place more than 2^24 bits", r, e, api.ErrLong)
		for _, at := range []int{0, len(more) / 2, len(more) - 1} {
			was := more[at]
			more[at] = 2
			r, e = patch.Spread(n, more...)
			noRow(t, "a place more than 2^24 bits, and a wrong weight", r, e, api.ErrLong)
			more[at] = was
		}
	}
}

// TestSpreadRefusesWeights: each weight that may not be, at each place.
func TestSpreadRefusesWeights(t *testing.T) {
	for v := math.MinInt8; v <= math.MaxInt8; v++ {
		r, e := patch.Spread(1, int8(v))
		if v < -1 || v > 1 {
			noRow(t, "the weight "+strconv.Itoa(v), r, e, api.ErrWeight)
		} else {
			wantRow(t, "P13.3: Spread of one weight", r, e, laid(1, []int8{int8(v)}))
		}
	}
	for _, n := range []int{1, 2, 64, 65} {
		for at := range 3 * n {
			for _, v := range badWeights {
				w := someWeights(3*n, at)
				w[at] = v
				r, e := patch.Spread(n, w...)
				noRow(t, "a wrong weight", r, e, api.ErrWeight)
			}
		}
	}
	last := append(make([]int8, most-1), 2)
	r, e := patch.Spread(64, last...)
	noRow(t, "a wrong weight at the end of the most", r, e, api.ErrWeight)
}
