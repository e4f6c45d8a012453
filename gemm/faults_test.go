package gemm_test

import (
	"math"
	"slices"
	"strconv"
	"testing"

	"heddle/api"
	"heddle/dot"
)

func bitsOf(n int, words ...uint64) api.Bits { return api.Bits{Len: n, Words: words} }

// badLine is a row that may not stand beside rows of 70 places, with its error.
type badLine struct {
	what string
	r    api.Row
	e    api.Errno
}

// refused are rows that dot.Check refuses: each kind of fault that it knows.
func refused() []badLine {
	good := bitsOf(70, 5, 1)
	return []badLine{
		{"Sign where Some is not", api.Row{Sign: bitsOf(70, 4, 0), Some: bitsOf(70, 3, 0)}, api.ErrKind},
		{"Sign where Some is not, in the last word", api.Row{Sign: bitsOf(70, 0, 32), Some: bitsOf(70, full, 31)}, api.ErrKind},
		{"Sign where Some is not, another Len", api.Row{Sign: bitsOf(3, 2), Some: bitsOf(3, 1)}, api.ErrKind},
		{"two lengths", api.Row{Sign: good, Some: bitsOf(71, full, 1)}, api.ErrBits},
		{"two lengths, the other way", api.Row{Sign: bitsOf(69, 0, 0), Some: good}, api.ErrBits},
		{"a bit of Sign behind the end", api.Row{Sign: bitsOf(70, 0, 64), Some: good}, api.ErrBits},
		{"a bit of Some behind the end", api.Row{Sign: good, Some: bitsOf(70, full, full)}, api.ErrBits},
		{"a bit behind the end and Sign where Some is not", api.Row{Sign: bitsOf(70, 8, 0), Some: bitsOf(70, 4, 64)}, api.ErrBits},
		{"a word of Sign missing", api.Row{Sign: bitsOf(70, 1), Some: good}, api.ErrBits},
		{"a word of Some missing", api.Row{Sign: good, Some: bitsOf(70, 5)}, api.ErrBits},
		{"no words", api.Row{Sign: bitsOf(70), Some: bitsOf(70)}, api.ErrBits},
		{"a word too many", api.Row{Sign: bitsOf(70, 5, 1, 0), Some: bitsOf(70, 5, 1, 0)}, api.ErrBits},
		{"a Len below 0", api.Row{Sign: bitsOf(-1), Some: bitsOf(-1)}, api.ErrBits},
		{"the least Len", api.Row{Sign: bitsOf(math.MinInt, 1), Some: bitsOf(math.MinInt, 1)}, api.ErrBits},
		{"the greatest Len", api.Row{Sign: bitsOf(math.MaxInt), Some: bitsOf(math.MaxInt)}, api.ErrBits},
		{"a Len above 2^24", api.Row{Sign: bitsOf(most + 1), Some: bitsOf(most + 1)}, api.ErrBits},
	}
}

// others are rows that may be, but have another Len than 70.
func others() []badLine {
	var made []badLine
	for _, n := range []int{0, 1, 64, 65, 69, 71, 128, 129} {
		made = append(made, badLine{"Len " + strconv.Itoa(n), packed(weights(8, n, n)[7]), api.ErrBits})
	}
	return made
}

func badLines() []badLine { return append(refused(), others()...) }

// good are so many rows of 70 places.
func good(many int) []api.Row { return packedAll(weights(many, 70, 4)) }

// with is the list with another row at a place.
func with(list []api.Row, at int, r api.Row) []api.Row {
	list = slices.Clone(list)
	list[at] = r
	return list
}

// wrongSizes are sizes of a block or strip that are not 1 to 4096.
var wrongSizes = []int{0, -1, -2, -4096, 4097, 4098, 8192, 1 << 32, 1<<32 + 1, math.MinInt, math.MinInt + 1, math.MaxInt - 1, math.MaxInt}

// wrongWays are blocks and strips of which at least one size may not be.
func wrongWays() []way {
	var made []way
	for _, n := range wrongSizes {
		made = append(made, strips(n), blocks(n, n), blocks(n, 1), blocks(1, n), blocks(n, 4096), blocks(4096, n), blocks(n, 0), blocks(0, n))
	}
	return made
}

// TestSizes: 1 and 4096 may be, of each of the sizes.
func TestSizes(t *testing.T) {
	rows, cols := weights(5, 70, 1), weights(6, 70, 2)
	is := product(rows, cols)
	for _, n := range []int{1, 2, 4095, 4096} {
		answers(t, "P11.1", strips(n), packedAll(rows), packedAll(cols), is)
		for _, wide := range []int{1, 2, 4095, 4096} {
			answers(t, "P11.1", blocks(n, wide), packedAll(rows), packedAll(cols), is)
		}
	}
}

// TestSizesFirst: a size that may not be is told ahead of every other fault, and where there is none.
func TestSizesFirst(t *testing.T) {
	big := make([]api.Row, 4097)
	spoilt := with(big, 0, refused()[0].r)
	for _, w := range wrongWays() {
		refuses(t, "of nothing", w, nil, nil, api.ErrArg)
		refuses(t, "no rows", w, nil, good(2), api.ErrArg)
		refuses(t, "no columns", w, good(2), nil, api.ErrArg)
		refuses(t, "no other fault", w, good(5), good(5), api.ErrArg)
		refuses(t, "too many", w, big, big, api.ErrArg)
		refuses(t, "too many that may not be", w, spoilt, spoilt, api.ErrArg)
		for _, b := range badLines() {
			refuses(t, "a row, "+b.what, w, with(good(3), 1, b.r), good(2), api.ErrArg)
			refuses(t, "a column, "+b.what, w, good(3), with(good(2), 1, b.r), api.ErrArg)
		}
	}
}

// TestMany: rows times columns may be 2^24 and not more.
func TestMany(t *testing.T) {
	long := make([]api.Row, most+1)
	square := [][2]int{{4096, 4096}}
	for _, w := range []way{blocks(4096, 4096), blocks(64, 100), strips(1)} {
		holds(t, w, long, square)
	}
	holds(t, plainly(), long, append(square, [][2]int{{4095, 4097}, {4097, 4095}, {4000, 4194}, {4194, 4000}, {1, most}}...))
	for _, n := range [][2]int{{4096, 4097}, {4097, 4096}, {4000, 4195}, {4195, 4000}, {1, most + 1}, {most + 1, 1}, {3, most/3 + 1}, {most/3 + 1, 3}, {most + 1, most + 1}} {
		for _, w := range someWays() {
			refuses(t, "too many", w, long[:n[0]], long[:n[1]], api.ErrBig)
		}
	}
}

// holds: so many rows and columns, all of one list, may be.
func holds(t *testing.T, w way, long []api.Row, sizes [][2]int) {
	t.Helper()
	for _, n := range sizes {
		sums, e := w.call(long[:n[0]], long[:n[1]])
		if e != api.OK || len(sums) != n[0] || len(sums[0]) != n[1] || len(sums[n[0]-1]) != n[1] {
			t.Errorf("P11.1: %s of %d rows, %d columns: %d lists, %d", w.what, n[0], n[1], len(sums), e)
		}
	}
}

// TestManyAlone: without columns there may be any number of rows, and without rows any number of columns.
func TestManyAlone(t *testing.T) {
	many := make([]api.Row, 1<<18)
	for _, w := range someWays() {
		answers(t, "P11.1", w, nil, many, nil)
		if sums, e := w.call(many, nil); e != api.OK || len(sums) != len(many) {
			t.Errorf("P11.1: %s of many rows and no columns: %d lists, %d", w.what, len(sums), e)
		}
	}
}

// TestManyFirst: too many are told ahead of what dot.Check says.
func TestManyFirst(t *testing.T) {
	rows, cols := make([]api.Row, 4096), make([]api.Row, 4097)
	for _, b := range badLines() {
		for _, w := range someWays() {
			refuses(t, "too many, the first row "+b.what, w, with(rows, 0, b.r), cols, api.ErrBig)
			refuses(t, "too many, the last row "+b.what, w, with(rows, 4095, b.r), cols, api.ErrBig)
			refuses(t, "too many, the first column "+b.what, w, rows, with(cols, 0, b.r), api.ErrBig)
			refuses(t, "too many, the last column "+b.what, w, rows, with(cols, 4096, b.r), api.ErrBig)
		}
	}
}

// TestOneFault: each fault at each row and at each column.
func TestOneFault(t *testing.T) {
	const high, wide = 5, 6
	for _, b := range refused() {
		if e := dot.Check(b.r); e != b.e {
			t.Fatalf("P10.1: Check, %s = %d", b.what, e)
		}
	}
	for _, b := range badLines() {
		for _, w := range someWays() {
			for i := range high {
				refuses(t, "row "+strconv.Itoa(i)+": "+b.what, w, with(good(high), i, b.r), good(wide), b.e)
				refuses(t, "no columns, row "+strconv.Itoa(i)+": "+b.what, w, with(good(high), i, b.r), nil, b.e)
			}
			for j := range wide {
				refuses(t, "column "+strconv.Itoa(j)+": "+b.what, w, good(high), with(good(wide), j, b.r), b.e)
				refuses(t, "no rows, column "+strconv.Itoa(j)+": "+b.what, w, nil, with(good(wide), j, b.r), b.e)
			}
		}
	}
}

// TestAlone: a row alone or a column alone has the error of dot.Check, and no other.
func TestAlone(t *testing.T) {
	for _, w := range someWays() {
		for _, b := range refused() {
			refuses(t, "one row: "+b.what, w, []api.Row{b.r}, nil, b.e)
			refuses(t, "one column: "+b.what, w, nil, []api.Row{b.r}, b.e)
		}
		for _, b := range others() {
			answers(t, "P11.1: "+b.what, w, []api.Row{b.r}, nil, [][]int64{{}})
			answers(t, "P11.1: "+b.what, w, nil, []api.Row{b.r}, nil)
		}
	}
}

// lines are five rows and six columns, of which some are spoilt: those below 5 rows, the others columns.
func lines(spoilt map[int]api.Row) (rows, cols []api.Row) {
	all := good(11)
	for at, r := range spoilt {
		all[at] = r
	}
	return all[:5], all[5:]
}

// TestTwoFaults: of two faults the one that comes first counts, rows ahead of columns, whichever it is. (Another Len than the first's is told of one that comes behind it, so these stand at no first place here.)
func TestTwoFaults(t *testing.T) {
	faults := []badLine{refused()[0], refused()[2], refused()[5], refused()[12], others()[1], others()[6]}
	for _, a := range faults {
		for _, b := range faults {
			for i := 1; i < 11; i++ {
				for j := i + 1; j < 11; j++ {
					rows, cols := lines(map[int]api.Row{i: a.r, j: b.r})
					for _, w := range someWays() {
						refuses(t, a.what+", then "+b.what, w, rows, cols, a.e)
					}
				}
			}
		}
	}
}

// TestFirstTells: the first of all tells the Len, though it is the odd one; its own fault comes first.
func TestFirstTells(t *testing.T) {
	kind := refused()[0]
	for _, w := range someWays() {
		for _, b := range refused() {
			for j := 1; j < 11; j++ {
				rows, cols := lines(map[int]api.Row{0: b.r, j: others()[1].r})
				refuses(t, "the first row "+b.what+", and another Len", w, rows, cols, b.e)
			}
		}
		for _, b := range others() {
			rows, cols := lines(map[int]api.Row{0: b.r, 1: kind.r})
			refuses(t, "the first row of "+b.what+", the second "+kind.what, w, rows, cols, api.ErrKind)
			rows, cols = lines(map[int]api.Row{0: b.r, 2: kind.r})
			refuses(t, "the first row of "+b.what+", the third "+kind.what, w, rows, cols, api.ErrBits)
			refuses(t, "no rows, the first column of "+b.what+", the second "+kind.what, w, nil, with(with(good(3), 0, b.r), 1, kind.r), api.ErrKind)
			refuses(t, "no rows, the first column of "+b.what+", the third "+kind.what, w, nil, with(with(good(3), 0, b.r), 2, kind.r), api.ErrBits)
			refuses(t, "rows of "+b.what+", the first column "+kind.what, w, []api.Row{b.r, b.r}, with(good(3), 0, kind.r), api.ErrKind)
			refuses(t, "rows of "+b.what+", the second column "+kind.what, w, []api.Row{b.r, b.r}, with(good(3), 1, kind.r), api.ErrBits)
		}
	}
}

// TestAnotherLen: rows of one Len and columns of another, each of them alike among themselves.
func TestAnotherLen(t *testing.T) {
	for _, n := range []int{0, 1, 63, 64, 65, 128} {
		for _, m := range []int{0, 1, 63, 64, 65, 128} {
			for _, w := range someWays() {
				rows, cols := packedAll(weights(4, n, 1)), packedAll(weights(5, m, 2))
				if n == m {
					answers(t, "P11.1", w, rows, cols, product(weights(4, n, 1), weights(5, m, 2)))
					continue
				}
				refuses(t, "rows of one Len, columns of another", w, rows, cols, api.ErrBits)
			}
		}
	}
}
