package bound_test

import (
	"math"
	"slices"
	"testing"

	"heddle/api"
	"heddle/bound"
	"heddle/dot"
)

const (
	most = 2147483647 // the greatest sum
	full = math.MaxUint64
)

func reach(lo, hi int64) api.Reach { return api.Reach{Lo: lo, Hi: hi} }

// packed is a row of weights.
func packed(t *testing.T, w []int8) api.Row {
	t.Helper()
	r, e := dot.Pack(w...)
	if e != api.OK {
		t.Fatalf("Pack(%v): %d", w, e)
	}
	return r
}

// read is weights that are written as + - 0.
func read(s string) []int8 {
	var w []int8
	for _, c := range s {
		w = append(w, map[rune]int8{'+': 1, '-': -1, '0': 0}[c])
	}
	return w
}

// many are n weights: the first ones plus, then minus, the rest nothing.
func many(n, plus, minus int) []int8 {
	w := make([]int8, n)
	for i := range plus + minus {
		w[i] = 1
		if i >= plus {
			w[i] = -1
		}
	}
	return w
}

// row holds Row against what it should answer.
func row(t *testing.T, what string, r api.Row, x, want api.Reach, e api.Errno) {
	t.Helper()
	if got, gotE := bound.Row(r, x); got != want || gotE != e {
		t.Errorf("P17.1: Row(%s, %d to %d) = %d to %d, %d, want %d to %d, %d", what, x.Lo, x.Hi, got.Lo, got.Hi, gotE, want.Lo, want.Hi, e)
	}
}

// meantRow is what the document says of weights and a reach, weight by weight, and whether it may be.
func meantRow(w []int8, x api.Reach) (api.Reach, api.Errno) {
	var sum api.Reach
	for _, v := range w {
		a, b := int64(v)*x.Lo, int64(v)*x.Hi
		sum.Lo += min(a, b)
		sum.Hi += max(a, b)
	}
	if sum.Lo < -2147483647 || sum.Hi > 2147483647 {
		return api.Reach{}, api.ErrReach
	}
	return sum, api.OK
}

// choices are all lists of n numbers from lo to hi.
func choices(n int, lo, hi int64) [][]int64 {
	lists := [][]int64{nil}
	for range n {
		var longer [][]int64
		for _, l := range lists {
			for v := lo; v <= hi; v++ {
				longer = append(longer, append(slices.Clone(l), v))
			}
		}
		lists = longer
	}
	return lists
}

// TestRowByAllChoices: all rows of up to four weights, all small reaches, all choices of numbers.
func TestRowByAllChoices(t *testing.T) {
	for n := range 5 {
		for lo := int64(-3); lo <= 3; lo++ {
			for hi := lo; hi <= min(3, lo+3); hi++ {
				numbers := choices(n, lo, hi)
				for _, weights := range choices(n, -1, 1) {
					least, greatest := int64(math.MaxInt64), int64(math.MinInt64)
					for _, l := range numbers {
						sum := int64(0)
						for i, w := range weights {
							sum += w * l[i]
						}
						least, greatest = min(least, sum), max(greatest, sum)
					}
					var w []int8
					for _, v := range weights {
						w = append(w, int8(v))
					}
					row(t, "all choices", packed(t, w), reach(lo, hi), reach(least, greatest), api.OK)
				}
			}
		}
	}
}

// lengths are those at and beside the ends of words.
var lengths = []int{0, 1, 2, 3, 31, 32, 33, 62, 63, 64, 65, 66, 127, 128, 129, 191, 192, 193, 1000}

// lists are weights of a length: of one kind alone, in turn, one among others, any.
func lists(n int) [][]int8 {
	all := [][]int8{make([]int8, n), many(n, n, 0), many(n, 0, n), many(n, n/2, n-n/2), many(n, n/3, n/3)}
	for _, cycle := range []string{"+-", "-+", "+0", "-0", "0+-", "++-0", "-----+0"} {
		all = append(all, slices.Repeat(read(cycle), n)[:n])
	}
	for at := range n {
		for _, w := range []int8{1, -1} {
			one := make([]int8, n)
			one[at] = w
			but := many(n, n, 0)
			but[at] = -w
			all = append(all, one, but)
		}
		if n > 200 {
			break
		}
	}
	d := dice(n)
	return append(all, d.weights(n), d.weights(n), d.weights(n))
}

// reaches are above 0, below 0, about 0, from 0 on, up to 0, and of one number; small, and at the ends.
var reaches = []api.Reach{
	reach(0, 0), reach(1, 1), reach(-1, -1), reach(5, 5), reach(-7, -7), reach(-1, 1), reach(0, 1), reach(-1, 0), reach(0, 5), reach(-5, 0),
	reach(2, 3), reach(-3, -2), reach(-128, 127), reach(-127, 128), reach(100, 40000), reach(-40000, -100), reach(-3, 11), reach(-11, 3),
	reach(-most, most), reach(0, most), reach(-most, 0), reach(most, most), reach(-most, -most), reach(most-1, most), reach(-most, 1-most), reach(1-most, most), reach(-most, most-1),
	reach(-1<<30, 1<<30), reach(1<<30, 1<<30), reach(-1<<30, -1<<30), reach(-1<<24, 1<<25), reach(-65536, 65535), reach(33554431, 33554432),
}

// TestRowOfAllLengths: rows that end at, ahead of and behind the end of a word, with reaches of each kind.
func TestRowOfAllLengths(t *testing.T) {
	beyond := 0
	for _, n := range lengths {
		for _, w := range lists(n) {
			r := packed(t, w)
			for _, x := range reaches {
				want, e := meantRow(w, x)
				row(t, "weights of all lengths", r, x, want, e)
				if e != api.OK {
					beyond++
				}
			}
		}
	}
	if beyond == 0 {
		t.Error("no answer was beyond MaxSum")
	}
}

// TestRowOfNothing: no bits, and nothing but zeros, with every reach that may be.
func TestRowOfNothing(t *testing.T) {
	for _, x := range reaches {
		row(t, "no bits", api.Row{}, x, api.Reach{}, api.OK)
		row(t, "no bits, no words", api.Row{Sign: api.Bits{Words: []uint64{}}, Some: api.Bits{Words: []uint64{}}}, x, api.Reach{}, api.OK)
		for _, n := range lengths {
			row(t, "zeros", packed(t, make([]int8, n)), x, api.Reach{}, api.OK)
		}
	}
}

// TestRowAtItsEnds: answers of just MaxSum and -MaxSum, and one beyond each.
func TestRowAtItsEnds(t *testing.T) {
	for _, c := range []struct {
		w       string
		x, want api.Reach
		e       api.Errno
	}{
		{"+", reach(-most, most), reach(-most, most), api.OK},
		{"-", reach(-most, most), reach(-most, most), api.OK},
		{"-", reach(5, most), reach(-most, -5), api.OK},
		{"-", reach(-most, -5), reach(5, most), api.OK},
		{"+-", reach(most, most), reach(0, 0), api.OK},
		{"+-", reach(-most, -most), reach(0, 0), api.OK},
		{"+-", reach(0, most), reach(-most, most), api.OK},
		{"+-", reach(-most, 0), reach(-most, most), api.OK},
		{"+-", reach(-1, most), api.Reach{}, api.ErrReach},
		{"+-", reach(-most, 1), api.Reach{}, api.ErrReach},
		// The greatest alone at its end, and beyond it.
		{"++-", reach(1, 1<<30), reach(2-1<<30, most), api.OK},
		{"++-", reach(0, 1<<30), api.Reach{}, api.ErrReach},
		{"--+", reach(-1<<30, -1), reach(2-1<<30, most), api.OK},
		{"--+", reach(-1<<30, 0), api.Reach{}, api.ErrReach},
		{"++", reach(-1<<30+1, 1<<30-1), reach(2-1<<31, most-1), api.OK},
		{"++", reach(-5, 1<<30), api.Reach{}, api.ErrReach},
		{"--", reach(-1<<30, 5), api.Reach{}, api.ErrReach},
		{"++", reach(1<<30, 1<<30), api.Reach{}, api.ErrReach},
		// The least alone at its end, and beyond it.
		{"++-", reach(-1<<30, -1), reach(-most, 1<<30-2), api.OK},
		{"++-", reach(-1<<30, 0), api.Reach{}, api.ErrReach},
		{"--+", reach(1, 1<<30), reach(-most, 1<<30-2), api.OK},
		{"--+", reach(0, 1<<30), api.Reach{}, api.ErrReach},
		{"++", reach(-1<<30, 5), api.Reach{}, api.ErrReach},
		{"--", reach(-5, 1<<30), api.Reach{}, api.ErrReach},
		{"++", reach(-1<<30, -1<<30), api.Reach{}, api.ErrReach},
		// Beyond the end by so much that it would look well in 32 bits.
		{"++++", reach(1<<30, 1<<30), api.Reach{}, api.ErrReach},
		{"++++", reach(0, 1<<30), api.Reach{}, api.ErrReach},
		{"++++", reach(-1<<30, 0), api.Reach{}, api.ErrReach},
		{"----", reach(-1<<30, 1<<30), api.Reach{}, api.ErrReach},
		{"+++++", reach(1<<30, 1<<30), api.Reach{}, api.ErrReach},
		{"0+0", reach(most, most), reach(most, most), api.OK},
		{"0-0", reach(most, most), reach(-most, -most), api.OK},
	} {
		row(t, c.w, packed(t, read(c.w)), c.x, c.want, c.e)
	}
}

// TestLongestRow: as many weights as a row may have.
func TestLongestRow(t *testing.T) {
	const n = 1 << 24
	plus, minus := packed(t, many(n, n, 0)), packed(t, many(n, 0, n))
	row(t, "2^24 pluses", plus, reach(-127, 127), reach(-127*n, 127*n), api.OK)
	row(t, "2^24 pluses", plus, reach(-128, 0), api.Reach{}, api.ErrReach)
	row(t, "2^24 pluses", plus, reach(0, 128), api.Reach{}, api.ErrReach)
	row(t, "2^24 minuses", minus, reach(-127, 3), reach(-3*n, 127*n), api.OK)
	row(t, "2^24 minuses", minus, reach(-128, 0), api.Reach{}, api.ErrReach)
	row(t, "2^24 minuses", minus, reach(0, 128), api.Reach{}, api.ErrReach)
	for _, r := range []api.Row{plus, minus} {
		for _, x := range []api.Reach{reach(-most, most), reach(most, most), reach(-most, -most), reach(256, 256), reach(-256, -256), reach(1<<30, 1<<30)} {
			row(t, "2^24 weights", r, x, api.Reach{}, api.ErrReach)
		}
	}
	one := packed(t, many(n, n-1, 1))
	row(t, "2^24 weights, one minus", one, reach(-127, 128), reach(-127*(n-1)-128, most), api.OK)
	row(t, "2^24 weights, one minus", one, reach(-128, 127), reach(-most, 127*(n-1)+128), api.OK)
	row(t, "2^24 weights, one minus", one, reach(-128, 128), api.Reach{}, api.ErrReach)
	half := packed(t, many(n, n/2, n/2))
	row(t, "half pluses, half minuses", half, reach(most, most), reach(0, 0), api.OK)
	row(t, "half pluses, half minuses", half, reach(most-1, most), reach(-n/2, n/2), api.OK)
	row(t, "half pluses, half minuses", half, reach(-most, 255-most), reach(-255*(n/2), 255*(n/2)), api.OK)
	row(t, "half pluses, half minuses", half, reach(-most, 256-most), api.Reach{}, api.ErrReach)
	row(t, "nothing", packed(t, make([]int8, n)), reach(-most, most), reach(0, 0), api.OK)
}

// badReaches have Lo above Hi, or an end beyond MaxSum.
var badReaches = []api.Reach{
	reach(1, 0), reach(0, -1), reach(2, 1), reach(-1, -2), reach(5, -5), reach(most, -most), reach(most, most-1), reach(1-most, -most), reach(1<<32, 0), reach(0, -1<<32),
	reach(-most-1, 0), reach(-most-1, -most-1), reach(-most-1, most), reach(0, most+1), reach(most+1, most+1), reach(-most, most+1), reach(-most-1, most+1),
	reach(-1<<32, 0), reach(0, 1<<32), reach(1<<32, 1<<32), reach(-1<<32, 1<<32), reach(-1<<32-1, 1<<32+1), reach(1<<32-1, 1<<32+1), reach(-1<<62, 1<<62),
	reach(math.MinInt64, 0), reach(0, math.MaxInt64), reach(math.MinInt64, math.MaxInt64), reach(math.MaxInt64, math.MinInt64), reach(math.MinInt64, math.MinInt64), reach(math.MaxInt64, math.MaxInt64),
	reach(math.MinInt64, 1), reach(-1, math.MaxInt64), reach(math.MaxInt64, 0), reach(0, math.MinInt64), reach(math.MinInt64+1, most), reach(-most, math.MaxInt64-1),
}

// TestReachesThatMayNotBe: whatever the row that may be, also where the answer would be beyond MaxSum, and where all weights are nothing.
func TestReachesThatMayNotBe(t *testing.T) {
	for _, x := range badReaches {
		for _, w := range []string{"", "0", "000", "+", "-", "+-", "++", "--", "++++", "----", "++-0", "+++++++++"} {
			row(t, w, packed(t, read(w)), x, api.Reach{}, api.ErrArg)
		}
		for _, n := range []int{63, 64, 65} {
			for _, w := range [][]int8{make([]int8, n), many(n, n, 0), many(n, 0, n), many(n, n/2, n/2)} {
				row(t, "weights", packed(t, w), x, api.Reach{}, api.ErrArg)
			}
		}
	}
}

func bits(n int, words ...uint64) api.Bits { return api.Bits{Len: n, Words: words} }

// badBits are rows of bits that may not be.
func badBits() map[string]api.Bits {
	return map[string]api.Bits{
		"a Len below 0":                  bits(-1),
		"a Len below 0, with a word":     bits(-1, 0),
		"the least Len":                  bits(math.MinInt),
		"the greatest Len":               bits(math.MaxInt),
		"a Len above 2^24":               bits(1<<24+1, make([]uint64, 1<<18+1)...),
		"a Len above 2^24, and no words": bits(1<<24 + 1),
		"no words":                       bits(1),
		"a word too few":                 bits(65, 1),
		"a word too many":                bits(64, 1, 0),
		"a word and no bits":             bits(0, 0),
		"a bit behind the end":           bits(4, 16),
		"the highest bit behind 63":      bits(63, 1<<63),
		"a bit behind 65":                bits(65, full, 2),
	}
}

// blank is a row of bits as long as another, none set; if that has no such length, of no bits.
func blank(n int) api.Bits {
	if n < 0 || n > 1<<24 {
		n = 0
	}
	return bits(n, make([]uint64, (n+63)/64)...)
}

// badRows are rows that may not be, with the error of each.
func badRows() map[string]struct {
	r api.Row
	e api.Errno
} {
	type fault = struct {
		r api.Row
		e api.Errno
	}
	all := map[string]fault{
		"Sign longer by a bit":                     {api.Row{Sign: bits(5, 1), Some: bits(4, 1)}, api.ErrBits},
		"Some longer by a bit":                     {api.Row{Sign: bits(4, 1), Some: bits(5, 1)}, api.ErrBits},
		"Sign longer by a word":                    {api.Row{Sign: bits(65, 1, 0), Some: bits(64, 1)}, api.ErrBits},
		"Some longer by a word":                    {api.Row{Sign: bits(64, 1), Some: bits(65, 1, 0)}, api.ErrBits},
		"Sign alone":                               {api.Row{Sign: bits(3, 1)}, api.ErrBits},
		"Some alone":                               {api.Row{Some: bits(3, 1)}, api.ErrBits},
		"other lengths, and a sign of nothing":     {api.Row{Sign: bits(5, 2), Some: bits(4, 1)}, api.ErrBits},
		"a bit behind the end, a sign of nothing":  {api.Row{Sign: bits(4, 18), Some: bits(4, 1)}, api.ErrBits},
		"a bit behind Some, a sign of nothing":     {api.Row{Sign: bits(4, 2), Some: bits(4, 17)}, api.ErrBits},
		"a sign of nothing":                        {api.Row{Sign: bits(1, 1), Some: bits(1, 0)}, api.ErrKind},
		"a sign of nothing beside weights":         {api.Row{Sign: bits(4, 3), Some: bits(4, 13)}, api.ErrKind},
		"signs of nothing alone":                   {api.Row{Sign: bits(64, full), Some: bits(64, 0)}, api.ErrKind},
		"a sign of nothing in the last bit":        {api.Row{Sign: bits(65, full, 1), Some: bits(65, full, 0)}, api.ErrKind},
		"a sign of nothing, though as many in all": {api.Row{Sign: bits(2, 1), Some: bits(2, 2)}, api.ErrKind},
	}
	for what, b := range badBits() {
		all["Sign with "+what] = fault{api.Row{Sign: b, Some: blank(b.Len)}, api.ErrBits}
		all["Some with "+what] = fault{api.Row{Sign: blank(b.Len), Some: b}, api.ErrBits}
		all["both with "+what] = fault{api.Row{Sign: b, Some: b}, api.ErrBits}
	}
	return all
}

// TestRowsThatMayNotBe: dot.Check's error ahead of all others, whatever the reach.
func TestRowsThatMayNotBe(t *testing.T) {
	for what, c := range badRows() {
		if e := dot.Check(c.r); e != c.e {
			t.Fatalf("%s: dot.Check tells %d, not %d", what, e, c.e)
		}
		for _, x := range append(slices.Clone(reaches), badReaches...) {
			row(t, what, c.r, x, api.Reach{}, c.e)
		}
	}
}
