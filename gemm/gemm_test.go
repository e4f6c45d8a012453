package gemm_test

import (
	"math"
	"slices"
	"strconv"
	"testing"

	"heddle/api"
	"heddle/dot"
	"heddle/gemm"
)

const (
	full = math.MaxUint64
	most = api.MaxElems
)

// way is one of the calls, with what it is told beside rows and columns.
type way struct {
	what string
	call func(rows, cols []api.Row) ([][]int64, api.Errno)
}

func plainly() way { return way{"Plain", gemm.Plain} }

func blocks(high, wide int) way {
	return way{"Block(" + strconv.Itoa(high) + ", " + strconv.Itoa(wide) + ")", func(rows, cols []api.Row) ([][]int64, api.Errno) {
		return gemm.Block(rows, cols, high, wide)
	}}
}

func strips(words int) way {
	return way{"Strip(" + strconv.Itoa(words) + ")", func(rows, cols []api.Row) ([][]int64, api.Errno) {
		return gemm.Strip(rows, cols, words)
	}}
}

// allWays are Plain, Block with each high and wide and Strip with each number of words up to small, and with the greatest.
func allWays(small int) []way {
	sizes := []int{api.MaxSide - 1, api.MaxSide}
	for n := 1; n <= small; n++ {
		sizes = append(sizes, n)
	}
	made := []way{plainly()}
	for _, n := range sizes {
		made = append(made, strips(n))
		for _, wide := range sizes {
			made = append(made, blocks(n, wide))
		}
	}
	return made
}

// someWays are some of each kind.
func someWays() []way {
	return []way{plainly(), blocks(1, 1), blocks(2, 3), blocks(3, 5), blocks(7, 4), blocks(4096, 4096), strips(1), strips(2), strips(4096)}
}

// packed is the row of some weights as the document tells it.
func packed(w []int8) api.Row {
	words := (len(w) + 63) / 64
	sign, some := make([]uint64, words), make([]uint64, words)
	for i, n := range w {
		bit := uint64(math.Pow(2, float64(i%64)))
		if n != 0 {
			some[i/64] += bit
		}
		if n == 1 {
			sign[i/64] += bit
		}
	}
	return api.Row{Sign: api.Bits{Len: len(w), Words: sign}, Some: api.Bits{Len: len(w), Words: some}}
}

func packedAll(lists [][]int8) []api.Row {
	made := make([]api.Row, len(lists))
	for i, w := range lists {
		made[i] = packed(w)
	}
	return made
}

// weightsOf reads + - 0.
func weightsOf(text string) []int8 {
	var w []int8
	for _, c := range text {
		w = append(w, map[rune]int8{'+': 1, '-': -1, '0': 0}[c])
	}
	return w
}

// written are rows that are written as + - 0.
func written(texts ...string) []api.Row {
	var made []api.Row
	for _, text := range texts {
		made = append(made, packed(weightsOf(text)))
	}
	return made
}

// chance gives numbers that look like chance, the same ones each time.
func chance(seed int) func(below int) int {
	state := uint64(seed)*0x9e3779b97f4a7c15 + 1
	return func(below int) int {
		state = state*6364136223846793005 + 1442695040888963407
		return int(state >> 33 % uint64(below))
	}
}

// weights are so many lists of n weights: one of pluses, one of minuses, one of nothing, two that count at one end alone, and others that look like chance.
func weights(many, n, seed int) [][]int8 {
	next := chance(seed)
	made := make([][]int8, many)
	for k := range made {
		made[k] = make([]int8, n)
		for i := range n {
			w := next(3) - 1
			switch k {
			case 1:
				w = 1
			case 2:
				w = -1
			case 3:
				w = 0
			case 4:
				w = max(0, 1-i)
			case 5:
				w = min(0, n-2-i)
			}
			made[k][i] = int8(w)
		}
	}
	return made
}

// product is the answer as the document tells it, weight by weight.
func product(rows, cols [][]int8) [][]int64 {
	sums := make([][]int64, len(rows))
	for i, row := range rows {
		sums[i] = make([]int64, len(cols))
		for j, col := range cols {
			for p, w := range row {
				sums[i][j] += int64(w) * int64(col[p])
			}
		}
	}
	return sums
}

func same(a, b [][]int64) bool { return slices.EqualFunc(a, b, slices.Equal[[]int64]) }

func answers(t *testing.T, promise string, w way, rows, cols []api.Row, is [][]int64) {
	t.Helper()
	if sums, e := w.call(rows, cols); e != api.OK || !same(sums, is) {
		t.Errorf("%s: %s of %d rows, %d columns = %v, %d, not %v", promise, w.what, len(rows), len(cols), sums, e, is)
	}
}

func refuses(t *testing.T, what string, w way, rows, cols []api.Row, is api.Errno) {
	t.Helper()
	if sums, e := w.call(rows, cols); e != is || sums != nil {
		t.Errorf("P11.1: %s, %s: %d lists, %d, not %d", w.what, what, len(sums), e, is)
	}
}

// TestExamples: the chapter's examples.
func TestExamples(t *testing.T) {
	rows, cols := written("++-", "0-+"), written("+++", "--0")
	for _, w := range []way{plainly(), blocks(1, 1), blocks(4096, 2), strips(1)} {
		answers(t, "P11.2", w, rows, cols, [][]int64{{1, -2}, {0, 1}})
	}
	answers(t, "P11.2", plainly(), nil, written("+", "+"), nil)
	answers(t, "P11.2", plainly(), written("+"), nil, [][]int64{{}})
	refuses(t, "of nothing", blocks(0, 1), nil, nil, api.ErrArg)
	refuses(t, "of nothing", strips(4097), nil, nil, api.ErrArg)
	refuses(t, "rows ++, +", plainly(), written("++", "+"), nil, api.ErrBits)
	bad := packed(weightsOf("+0"))
	bad.Sign.Words[0] = 3
	refuses(t, "Sign where Some is not", plainly(), []api.Row{bad}, nil, api.ErrKind)
}

// TestWaysAreOne: every small block and strip over all numbers of rows and columns up to 9, so that each edge is cut in each way.
func TestWaysAreOne(t *testing.T) {
	const words = 3
	n := 64*words - 5
	rows, cols := weights(9, n, 1), weights(9, n, 2)
	for high := range len(rows) + 1 {
		for wide := range len(cols) + 1 {
			is := product(rows[:high], cols[:wide])
			for _, w := range allWays(10) {
				answers(t, "P11.3", w, packedAll(rows[:high]), packedAll(cols[:wide]), is)
			}
		}
	}
}

// TestLengths: rows of no words, of one and of many, at and beside a word's border.
func TestLengths(t *testing.T) {
	for _, n := range []int{0, 1, 2, 31, 63, 64, 65, 127, 128, 129, 191, 192, 193, 64 * 7, 64*11 + 1, 64*16 - 1} {
		rows, cols := weights(7, n, n+1), weights(11, n, n+2)
		is := product(rows, cols)
		for _, w := range allWays(13) {
			answers(t, "P11.2, P11.3", w, packedAll(rows), packedAll(cols), is)
		}
	}
}

// TestFewPlaces: all rows of three places with all columns of three.
func TestFewPlaces(t *testing.T) {
	var lists [][]int8
	for n := range 27 {
		lists = append(lists, []int8{int8(n%3 - 1), int8(n/3%3 - 1), int8(n/9 - 1)})
	}
	is := product(lists, lists)
	for _, w := range allWays(6) {
		answers(t, "P11.2", w, packedAll(lists), packedAll(lists), is)
	}
}

// TestEachPlace: each place of a row alone, and what it gives with a plus, a minus and nothing.
func TestEachPlace(t *testing.T) {
	const n = 130
	cols := weights(4, n, 5)[1:]
	for i := range n {
		for _, v := range []int8{1, -1} {
			row := make([]int8, n)
			row[i] = v
			for _, w := range someWays() {
				answers(t, "P11.2", w, packedAll([][]int8{row}), packedAll(cols), [][]int64{{int64(v), -int64(v), 0}})
			}
		}
	}
}

// TestSumsAreDots: each sum is dot.Some's.
func TestSumsAreDots(t *testing.T) {
	rows, cols := packedAll(weights(12, 333, 8)), packedAll(weights(14, 333, 9))
	for _, w := range someWays() {
		sums, e := w.call(rows, cols)
		if e != api.OK || len(sums) != len(rows) {
			t.Fatalf("P11.2: %s: %d lists, %d", w.what, len(sums), e)
		}
		for i, row := range rows {
			for j, col := range cols {
				if is, _ := dot.Some(row, col); len(sums[i]) != len(cols) || sums[i][j] != is {
					t.Errorf("P11.2: %s, row %d, column %d: not %d", w.what, i, j, is)
				}
			}
		}
	}
}

// TestNothing: without columns each list is empty, without rows there is no list; a nil list is the same as an empty one.
func TestNothing(t *testing.T) {
	none := [][]api.Row{nil, {}, make([]api.Row, 0, 3)}
	lines := map[string][]api.Row{"of Len 0": make([]api.Row, 5), "of Len 2": written("++", "0-", "+-", "00", "--"), "of many words": packedAll(weights(5, 200, 3))}
	for _, w := range allWays(6) {
		for _, empty := range none {
			for _, other := range none {
				answers(t, "P11.2", w, empty, other, nil)
			}
			for what, list := range lines {
				answers(t, "P11.2: no rows, columns "+what, w, empty, list, nil)
				answers(t, "P11.2: no columns, rows "+what, w, list, empty, make([][]int64, 5))
			}
		}
		answers(t, "P11.2: rows of Len 0", w, make([]api.Row, 2), make([]api.Row, 5), [][]int64{make([]int64, 5), make([]int64, 5)})
	}
}

// TestLongRows: sums of the greatest amount, of rows of 2^24 places.
func TestLongRows(t *testing.T) {
	words, none := make([]uint64, most/64), make([]uint64, most/64)
	for i := range words {
		words[i] = full
	}
	ones, nones := api.Bits{Len: most, Words: words}, api.Bits{Len: most, Words: none}
	plus, minus, zero := api.Row{Sign: ones, Some: ones}, api.Row{Sign: nones, Some: ones}, api.Row{Sign: nones, Some: nones}
	cols := []api.Row{plus, minus, zero, minus, plus}
	is := [][]int64{{most, -most, 0, -most, most}, {0, 0, 0, 0, 0}, {-most, most, 0, most, -most}}
	for _, w := range []way{plainly(), blocks(1, 1), blocks(2, 4), blocks(4096, 4096), strips(1), strips(1000), strips(4095), strips(4096)} {
		answers(t, "P11.2", w, []api.Row{plus, zero, minus}, cols, is)
	}
}

// TestManyLines: rows and columns that the greatest block does not hold.
func TestManyLines(t *testing.T) {
	const n = 70
	long, short := weights(2*api.MaxSide+3, n, 6), weights(6, n, 7)
	for _, pair := range [][2][][]int8{{long, short}, {short, long}} {
		is := product(pair[0], pair[1])
		for _, w := range []way{plainly(), blocks(4096, 4096), blocks(4095, 4), blocks(1, 4096), blocks(4096, 1), strips(1), strips(4096)} {
			sums, e := w.call(packedAll(pair[0]), packedAll(pair[1]))
			if e != api.OK || !same(sums, is) {
				t.Errorf("P11.3: %s of %d rows, %d columns: other sums, or %d", w.what, len(pair[0]), len(pair[1]), e)
			}
		}
	}
}
