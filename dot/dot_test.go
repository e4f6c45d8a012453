package dot_test

import (
	"math"
	"slices"
	"testing"

	"heddle/api"
	"heddle/dot"
)

const (
	full = math.MaxUint64
	most = api.MaxElems
)

// lens are the lengths of rows at and beside a word's border, and others.
var lens = []int{0, 1, 2, 5, 31, 62, 63, 64, 65, 66, 100, 127, 128, 129, 191, 192, 193, 256, 1000}

func plain(n int, words ...uint64) api.Bits { return api.Bits{Len: n, Words: words} }

// zeros is a row of n bits, none set.
func zeros(n int) api.Bits { return plain(n, make([]uint64, (n+63)/64)...) }

// pair is a row of weights in a word.
func pair(n int, sign, some uint64) api.Row {
	return api.Row{Sign: plain(n, sign), Some: plain(n, some)}
}

func same(a, b api.Bits) bool { return a.Len == b.Len && slices.Equal(a.Words, b.Words) }

func sameRow(a, b api.Row) bool { return same(a.Sign, b.Sign) && same(a.Some, b.Some) }

// rowOf is the row of some bits as the document tells it: bit i is bit i % 64 of the word i / 64.
func rowOf(set []bool) api.Bits {
	b := zeros(len(set))
	for i, s := range set {
		if s {
			b.Words[i/64] += uint64(math.Pow(2, float64(i%64)))
		}
	}
	return b
}

// packed is the row of some weights as the document tells it.
func packed(w []int8) api.Row {
	sign, some := make([]bool, len(w)), make([]bool, len(w))
	for i, n := range w {
		sign[i], some[i] = n == 1, n != 0
	}
	return api.Row{Sign: rowOf(sign), Some: rowOf(some)}
}

// chance gives numbers that look like chance, the same ones each time.
func chance(seed int) func(below int) int {
	state := uint64(seed)*0x9e3779b97f4a7c15 + 1
	return func(below int) int {
		state = state*6364136223846793005 + 1442695040888963407
		return int(state >> 33 % uint64(below))
	}
}

// weights are lists of n weights: none, all the same, one by one in turn, only at an end, and some that look like chance.
func weights(n int) [][]int8 {
	next := chance(n + 1)
	made := make([][]int8, 9)
	for i := range n {
		first, last := int8(0), int8(0)
		if i == 0 {
			first = 1
		}
		if i == n-1 {
			last = -1
		}
		for k, w := range []int8{0, 1, -1, int8(i%3 - 1), int8(1 - 2*(i%2)), first, last, int8(next(3) - 1), int8(2*next(2) - 1)} {
			made[k] = append(made[k], w)
		}
	}
	return made
}

// allWeights are all lists of n weights.
func allWeights(n int) [][]int8 {
	if n == 0 {
		return [][]int8{nil}
	}
	var made [][]int8
	for _, head := range allWeights(n - 1) {
		for w := int8(-1); w <= 1; w++ {
			made = append(made, append(slices.Clone(head), w))
		}
	}
	return made
}

type fault struct {
	what string
	b    api.Bits
}

// faulty are rows of bits that bits.Check refuses, in each of its ways.
func faulty() []fault {
	return []fault{
		{"below 0", plain(-1)},
		{"below 0, with a word", plain(-1, 0)},
		{"-64", plain(-64, full)},
		{"the least", plain(math.MinInt)},
		{"the least, with a word", plain(math.MinInt, 1)},
		{"one too long", zeros(most + 1)},
		{"one too long, no words", plain(most + 1)},
		{"the greatest", plain(math.MaxInt)},
		{"the greatest, with a word", plain(math.MaxInt, 1)},
		{"none, with a word", plain(0, 0)},
		{"none, with a bit", plain(0, 1)},
		{"1, a word is missing", plain(1)},
		{"4, a word is missing", plain(4)},
		{"4, a word too many", plain(4, 1, 0)},
		{"4, bit 4 behind", plain(4, 16)},
		{"4, bit 63 behind", plain(4, 1<<63)},
		{"4, all bits", plain(4, full)},
		{"63, bit 63 behind", plain(63, 1<<63)},
		{"63, a word too many", plain(63, 1, 0)},
		{"64, a word is missing", plain(64)},
		{"64, a word too many", plain(64, 1, 0)},
		{"65, a word is missing", plain(65, 1)},
		{"65, bit 65 behind", plain(65, 0, 2)},
		{"65, bit 127 behind", plain(65, full, 1<<63)},
		{"the longest, a word is missing", plain(most, make([]uint64, most/64-1)...)},
		{"the longest, a word too many", plain(most, make([]uint64, most/64+1)...)},
		{"one below the longest, a bit behind", plain(most-1, append(make([]uint64, most/64-1), 1<<63)...)},
	}
}

type badRow struct {
	what string
	r    api.Row
	e    api.Errno
}

// badRows are rows that Check refuses, with its error.
func badRows() []badRow {
	var bad []badRow
	add := func(what string, sign, some api.Bits, e api.Errno) {
		bad = append(bad, badRow{what, api.Row{Sign: sign, Some: some}, e})
	}
	for _, f := range faulty() {
		other := api.Bits{}
		if f.b.Len > 0 && f.b.Len <= most {
			other = zeros(f.b.Len)
		}
		add("Sign: "+f.what, f.b, other, api.ErrBits)
		add("Some: "+f.what, other, f.b, api.ErrBits)
		add("both: "+f.what, f.b, f.b, api.ErrBits)
	}
	add("4 and 5", plain(4, 9), plain(5, 13), api.ErrBits)
	add("5 and 4", plain(5, 9), plain(4, 13), api.ErrBits)
	add("0 and 1", plain(0), plain(1, 0), api.ErrBits)
	add("1 and 0", plain(1, 0), plain(0), api.ErrBits)
	add("64 and 65", plain(64, 0), plain(65, 0, 0), api.ErrBits)
	add("65 and 64", plain(65, 0, 0), plain(64, 0), api.ErrBits)
	add("two lengths that wrap round to one", plain(4, 0), plain(4+math.MinInt, 0), api.ErrBits)
	add("Sign alone", plain(4, 2), plain(4, 1), api.ErrKind)
	add("Sign alone, one place of many", plain(130, full, full, 3), plain(130, full, full, 1), api.ErrKind)
	add("Sign alone, in the first word", plain(130, full, 0, 0), plain(130, full-1, 0, 0), api.ErrKind)
	add("Sign alone and two lengths", plain(4, 2), plain(5, 1), api.ErrBits)
	add("Sign alone and another number of words", plain(4, 2), plain(70, 1, 0), api.ErrBits)
	add("Sign alone and a bit of Sign behind the end", plain(4, 18), plain(4, 1), api.ErrBits)
	add("Sign alone and a bit of Some behind the end", plain(4, 2), plain(4, 17), api.ErrBits)
	add("Sign alone and a word of Some too many", plain(4, 2), plain(4, 1, 0), api.ErrBits)
	add("Sign alone and no word of Some", plain(4, 2), plain(4), api.ErrBits)
	add("Sign alone, in a word too many", plain(64, 1, 1), plain(64, 1, 0), api.ErrBits)
	return bad
}

func TestCheckRefuses(t *testing.T) {
	for _, b := range badRows() {
		if e := dot.Check(b.r); e != b.e {
			t.Errorf("P10.1: Check, %s = %d, not %d", b.what, e, b.e)
		}
	}
}

// TestCheckEachPlace: at each place Some may be without Sign, and Sign not without Some.
func TestCheckEachPlace(t *testing.T) {
	for _, n := range lens {
		for i := range n {
			one, others := make([]bool, n), make([]bool, n)
			for j := range n {
				one[j], others[j] = j == i, j != i
			}
			sign := api.Row{Sign: rowOf(one), Some: rowOf(others)}
			if e := dot.Check(sign); e != api.ErrKind {
				t.Errorf("P10.1: %d places, Sign alone at %d: %d", n, i, e)
			}
			some := api.Row{Sign: zeros(n), Some: rowOf(one)}
			if e := dot.Check(some); e != api.OK {
				t.Errorf("P10.1: %d places, Some alone at %d: %d", n, i, e)
			}
		}
	}
}

func TestCheckTakes(t *testing.T) {
	good := []api.Row{{}, {Sign: plain(0), Some: api.Bits{Words: []uint64{}}}, pair(4, 9, 13), pair(64, full, full), pair(64, 0, full), pair(63, full>>1, full>>1)}
	good = append(good, api.Row{Sign: zeros(most), Some: zeros(most)})
	for _, n := range lens {
		for _, w := range weights(n) {
			good = append(good, packed(w))
		}
	}
	for _, r := range good {
		if e := dot.Check(r); e != api.OK {
			t.Errorf("P10.1: Check of %d places that may be = %d", r.Sign.Len, e)
		}
	}
}

func TestPackUnpack(t *testing.T) {
	lists := slices.Concat(allWeights(0), allWeights(1), allWeights(2), allWeights(3), allWeights(6))
	for _, n := range lens {
		lists = append(lists, weights(n)...)
	}
	for _, w := range lists {
		r, e := dot.Pack(w...)
		if e != api.OK || !sameRow(r, packed(w)) {
			t.Errorf("P10.2: Pack(%v) = %v, %d", w, r, e)
		}
		if l, e := dot.Unpack(packed(w)); e != api.OK || !slices.Equal(l, w) {
			t.Errorf("P10.2: Unpack of the row of %v = %v, %d", w, l, e)
		}
	}
}

func TestPackNothing(t *testing.T) {
	for _, w := range [][]int8{nil, {}, make([]int8, 0, 9)} {
		r, e := dot.Pack(w...)
		if e != api.OK || !sameRow(r, api.Row{}) {
			t.Errorf("P10.2: Pack of no weights = %v, %d", r, e)
		}
	}
	for _, r := range []api.Row{{}, {Sign: api.Bits{Words: []uint64{}}}, {Some: api.Bits{Words: make([]uint64, 0, 3)}}} {
		if l, e := dot.Unpack(r); e != api.OK || len(l) != 0 {
			t.Errorf("P10.2: Unpack of a row of Len 0 = %v, %d", l, e)
		}
	}
}

// TestPackWrong: each number that is no weight is refused, at the first place and at the last, of one weight and of many.
func TestPackWrong(t *testing.T) {
	for n := math.MinInt8; n <= math.MaxInt8; n++ {
		if n >= -1 && n <= 1 {
			continue
		}
		for _, long := range []int{1, 2, 63, 64, 65, 200} {
			for _, at := range []int{0, long / 2, long - 1} {
				w := slices.Clone(weights(long)[3])
				w[at] = int8(n)
				if r, e := dot.Pack(w...); e != api.ErrWeight || !sameRow(r, api.Row{}) {
					t.Errorf("P10.2: Pack of %d weights with %d at %d = %v, %d", long, n, at, r, e)
				}
			}
		}
	}
}

func TestPackLong(t *testing.T) {
	w := make([]int8, most+1)
	w[0], w[1], w[most-2], w[most-1] = 1, -1, -1, 1
	sign, some := zeros(most), zeros(most)
	sign.Words[0], some.Words[0] = 1, 3
	sign.Words[most/64-1], some.Words[most/64-1] = 1<<63, 3<<62
	r, e := dot.Pack(w[:most]...)
	if e != api.OK || !sameRow(r, api.Row{Sign: sign, Some: some}) {
		t.Fatalf("P10.2: Pack of 2^24 weights: Len %d and %d, %d", r.Sign.Len, r.Some.Len, e)
	}
	if l, e := dot.Unpack(r); e != api.OK || !slices.Equal(l, w[:most]) {
		t.Errorf("P10.2: Unpack of 2^24 weights: %d of them, %d", len(l), e)
	}
	if r, e := dot.Pack(w...); e != api.ErrLong || !sameRow(r, api.Row{}) {
		t.Errorf("P10.2: Pack of a weight more than 2^24: Len %d, %d", r.Sign.Len, e)
	}
	w[0] = 2
	if _, e := dot.Pack(w...); e != api.ErrLong {
		t.Errorf("P10.2: Pack of too many, one of them no weight = %d", e)
	}
	w[0], w[most-1] = 0, -2
	if r, e := dot.Pack(w[:most]...); e != api.ErrWeight || !sameRow(r, api.Row{}) {
		t.Errorf("P10.2: Pack of 2^24, the last no weight: Len %d, %d", r.Sign.Len, e)
	}
}

func TestUnpackRefuses(t *testing.T) {
	for _, b := range badRows() {
		if l, e := dot.Unpack(b.r); e != b.e || len(l) != 0 {
			t.Errorf("P10.2: Unpack, %s: %d weights, %d, not %d", b.what, len(l), e, b.e)
		}
	}
}
