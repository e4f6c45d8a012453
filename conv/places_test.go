package conv_test

import (
	"strconv"
	"testing"

	"heddle/api"
	"heddle/conv"
	"heddle/patch"
)

// tensorFor is the shape of a tensor over which a window gives so many rows and columns.
func tensorFor(w api.Window, channels, rows, cols int) api.Shape {
	return shapeOf((rows-1)*w.StepY+w.R-w.Top-w.Bottom, (cols-1)*w.StepX+w.S-w.Left-w.Right, channels)
}

// output is a window over so many channels, and the rows and columns that it is to give.
type output struct {
	w          api.Window
	channels   int
	rows, cols int
}

// outputs are of just as many places as patches below 2^16 words have, of one place fewer and one more, and of many more. Numbers, with eight planes a patch, has an eighth of them.
var outputs = []output{
	{win(1, 1, 1, 1), 1, 255, 257}, {win(1, 1, 1, 1), 1, 256, 256}, {win(1, 1, 1, 1, 3, 5, 9, 1), 2, 331, 412},
	{win(1, 1, 1, 1), 64, 64, 128}, {win(1, 1, 1, 1), 63, 1, 4095}, {win(1, 2, 1, 1, 0, 1, 0, 0), 3, 64, 64}, {win(1, 2, 1, 1, 0, 1, 0, 0), 3, 63, 65},
	{win(3, 3, 1, 1, 1, 1, 1, 1), 1, 9, 809}, {win(3, 3, 1, 1, 1, 1, 1, 1), 1, 22, 331}, {win(3, 3, 2, 1, 1, 1, 1, 1), 1, 56, 130}, {win(3, 3, 1, 2, 0, 1, 1, 0), 1, 173, 97},
	{win(3, 3, 1, 1, 1, 1, 1, 1), 64, 26, 35}, {win(3, 3, 1, 1, 1, 1, 1, 1), 64, 1, 911}, {win(3, 3, 1, 1, 1, 1, 1, 1), 2, 101, 9},
	{win(5, 4, 1, 1, 2, 1, 2, 2), 65, 26, 63}, {win(5, 4, 1, 1, 2, 1, 2, 2), 65, 11, 149}, {win(5, 4, 1, 1, 2, 1, 2, 2), 65, 5, 41},
	{win(15, 15, 1, 1, 7, 7, 7, 7), 1, 3, 97}, {win(15, 15, 1, 1, 7, 7, 7, 7), 1, 4, 73}, {win(15, 15, 1, 1, 7, 7, 7, 7), 1, 5, 59}, {win(15, 15, 1, 1, 14, 14, 14, 14), 1, 31, 47},
	{win(15, 15, 1, 1, 14, 14, 14, 14), 128, 18, 16}, {win(2, 2, 1, 1), 4096, 16, 16}, {win(2, 2, 1, 1), 4096, 257, 1}, {win(2, 2, 1, 1, 1, 1, 1, 1), 4033, 3, 5},
}

// TestManyPlaces: more places than one strip holds, by just one and by many, and strips that end within a row of the output.
func TestManyPlaces(t *testing.T) {
	t.Parallel()
	for i, o := range outputs {
		t.Run(strconv.Itoa(i), func(t *testing.T) {
			t.Parallel()
			s := tensorFor(o.w, o.channels, o.rows, o.cols)
			weights := weightsFor(o.w, o.channels, 1+i%2, i)
			if !reckons(t, someSigns(s, i), o.w, borders[i%3], weights) {
				t.Errorf("P14.2: the window does not fit over %v", s)
			}
		})
	}
}

// TestGreatPatches: places whose patch is beyond a strip's words alone (in eight planes), and the greatest sums.
func TestGreatPatches(t *testing.T) {
	t.Parallel()
	for i, x := range []struct {
		s api.Shape
		w api.Window
	}{
		{shapeOf(15, 15, 4096), win(15, 15, 1, 1)}, {shapeOf(3, 4, 4096), win(15, 15, 2, 13, 14, 14, 0, 14)}, {shapeOf(2, 2, 2305), win(15, 15, 3, 3, 14, 14, 14, 14)},
		{shapeOf(1, 1, 4095), win(15, 14, 14, 13, 14, 13, 14, 14)},
	} {
		t.Run(strconv.Itoa(i), func(t *testing.T) {
			t.Parallel()
			weights := weightsFor(x.w, x.s.C, 2, i)
			for _, b := range borders[i%2:] {
				reckons(t, someSigns(x.s, i), x.w, b, weights)
			}
			numbers := someNumbers(x.s, i)
			is, shape := numbers.sums(x.w, -1, weights)
			l, s, e := conv.Numbers(numbers.s, numbers.vals, x.w, -1, laidAll(x.s.C, weights))
			want(t, told("P14.4: Numbers", x.s, x.w, -1), l, s, e, is, shape)
		})
	}
}

// TestGreatestSums: 15 * 15 * 4096 weights of one sign, over elements of one sign, and over -128 and 127.
func TestGreatestSums(t *testing.T) {
	const all = 15 * 15 * 4096
	s, w := shapeOf(15, 15, 4096), win(15, 15, 1, 1)
	pluses, minuses := evenly(shapeOf(15, 15, 4096), 1).vals, evenly(shapeOf(15, 15, 4096), -1).vals
	rows := laidAll(4096, [][]int8{pluses, minuses})
	for _, v := range []int64{1, -1} {
		holdsFor(t, evenly(s, int8(v)), w, 0, rows, []int64{v * all, -v * all}, shapeOf(1, 1, 2))
	}
	for _, v := range []int64{-128, 127, 0, 64} {
		l, sh, e := conv.Numbers(s, evenly(s, int8(v)).vals, w, 0, rows)
		want(t, told("P14.4: Numbers", s, w, 0), l, sh, e, []int64{v * all, -v * all}, shapeOf(1, 1, 2))
	}
}

// TestMoreThanPatchesMayBe: patch.See refuses all patches of an output together above 2^22 words; here these are no bound.
func TestMoreThanPatchesMayBe(t *testing.T) {
	t.Parallel()
	for i, o := range []output{{win(15, 15, 1, 1, 7, 7, 7, 7), 1, 137, 137}, {win(3, 3, 1, 1, 1, 1, 1, 1), 2, 114, 4096}, {win(3, 3, 1, 1, 1, 1, 1, 1), 1, 4096, 114}, {win(5, 5, 1, 1), 4096, 52, 52}} {
		s := tensorFor(o.w, o.channels, o.rows, o.cols)
		weights := weightsFor(o.w, o.channels, 1, i)
		is, shape := someSigns(s, i).sums(o.w, -1, weights)
		c, rows := someSigns(s, i).cube(), laidAll(o.channels, weights)
		if _, _, e := patch.See(c, o.w, -1); e != api.ErrBig {
			t.Fatalf("P13.1: %s: %d", told("See", s, o.w, -1), e)
		}
		for _, f := range ways {
			l, sh, e := f.call(c, o.w, -1, rows)
			want(t, told("P14.2: "+f.what, s, o.w, -1), l, sh, e, is, shape)
		}
	}
}
