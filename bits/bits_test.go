package bits_test

import (
	"math"
	"slices"
	"testing"

	"heddle/api"
	"heddle/bits"
)

const full = math.MaxUint64

// lens are the lengths of rows at and beside a word's border, and others.
var lens = []int{0, 1, 2, 31, 62, 63, 64, 65, 66, 100, 127, 128, 129, 191, 192, 193, 200, 256, 1000}

func row(n int, words ...uint64) api.Bits { return api.Bits{Len: n, Words: words} }

func same(a, b api.Bits) bool { return a.Len == b.Len && slices.Equal(a.Words, b.Words) }

// rowOf is the row of some bits as the document tells it: bit i is bit i % 64 of the word i / 64.
func rowOf(set []bool) api.Bits {
	b := row(len(set))
	for i, s := range set {
		if i%64 == 0 {
			b.Words = append(b.Words, 0)
		}
		if s {
			b.Words[i/64] += uint64(math.Pow(2, float64(i%64)))
		}
	}
	return b
}

// bitsOf is the other way round.
func bitsOf(b api.Bits) []bool {
	set := make([]bool, b.Len)
	for i := range set {
		set[i] = b.Words[i/64]>>(i%64)%2 == 1
	}
	return set
}

// patterns are rows of n bits: none set, all, every other one, only the first, only the last, and some that look like chance.
func patterns(n int) [][]bool {
	made := make([][]bool, 7)
	state := uint64(n + 1)
	for i := range n {
		state = state*6364136223846793005 + 1442695040888963407
		for k, s := range []bool{false, true, i%2 == 0, i == 0, i == n-1, state>>40%2 == 1, state>>50%4 == 0} {
			made[k] = append(made[k], s)
		}
	}
	return made
}

// many is a row of n bits with the first and the last one set.
func many(n int) api.Bits {
	b := row(n, make([]uint64, (n+63)/64)...)
	b.Words[0] |= 1
	b.Words[(n-1)/64] |= 1 << ((n - 1) % 64)
	return b
}

// faulty are rows that may not be, with the fault that is told.
func faulty() []fault {
	const most = api.MaxElems
	return []fault{
		{"below 0", row(-1), api.ErrArg},
		{"below 0, with words", row(-1, 0), api.ErrArg},
		{"-64", row(-64, full), api.ErrArg},
		{"the least", row(math.MinInt), api.ErrArg},
		{"the least, with a word", row(math.MinInt, 1), api.ErrArg},
		{"one too long", row(most+1, make([]uint64, most/64+1)...), api.ErrLong},
		{"one too long, no words", row(most + 1), api.ErrLong},
		{"one too long, a bit behind it", row(most+1, append(make([]uint64, most/64), 2)...), api.ErrLong},
		{"the greatest", row(math.MaxInt), api.ErrLong},
		{"the greatest, with a word", row(math.MaxInt, 1), api.ErrLong},
		{"none, with a word", row(0, 0), api.ErrBits},
		{"none, with a bit", row(0, 1), api.ErrBits},
		{"a word is missing", row(1), api.ErrBits},
		{"64, a word is missing", row(64), api.ErrBits},
		{"65, a word is missing", row(65, 1), api.ErrBits},
		{"64, a word too many", row(64, 1, 0), api.ErrBits},
		{"63, a word too many", row(63, 1, 0), api.ErrBits},
		{"1, bit 1 behind", row(1, 2), api.ErrBits},
		{"3, bit 3 behind", row(3, 8), api.ErrBits},
		{"63, bit 63 behind", row(63, 1<<63), api.ErrBits},
		{"65, bit 65 behind", row(65, 0, 2), api.ErrBits},
		{"65, bit 127 behind", row(65, full, 1<<63), api.ErrBits},
		{"the longest, a word is missing", row(most, make([]uint64, most/64-1)...), api.ErrBits},
		{"the longest, a word too many", row(most, make([]uint64, most/64+1)...), api.ErrBits},
	}
}

type fault struct {
	what string
	b    api.Bits
	e    api.Errno
}

// want fails unless a row was answered, just that one.
func want(t *testing.T, what string, b api.Bits, e api.Errno, is api.Bits) {
	t.Helper()
	if e != api.OK || !same(b, is) {
		t.Errorf("%s = %v, %d, not %v", what, b, e, is)
	}
}

// refused fails unless a row was refused, with nothing beside the error.
func refused(t *testing.T, what string, b api.Bits, e, is api.Errno) {
	t.Helper()
	if e != is || b.Len != 0 || len(b.Words) != 0 {
		t.Errorf("%s = %v, %d, not nothing and %d", what, b, e, is)
	}
}

func TestPack(t *testing.T) {
	b, e := bits.Pack(1, -1, 0, 5)
	want(t, "P2.1: Pack(1, -1, 0, 5)", b, e, row(4, 9))
	b, e = bits.Pack()
	want(t, "P2.1: Pack()", b, e, row(0))
	b, e = bits.Pack([]int8{}...)
	want(t, "P2.1: Pack of an empty list", b, e, row(0))
	b, e = bits.Pack(-128, -127, -2, 127, 2, 0)
	want(t, "P2.1: Pack of the edges of int8", b, e, row(6, 24))
	for _, n := range lens {
		for _, set := range patterns(n) {
			var l []int8
			for i, s := range set {
				if s {
					l = append(l, int8(1+i%127))
				} else {
					l = append(l, int8(-(i % 129)))
				}
			}
			b, e := bits.Pack(l...)
			want(t, "P2.1: Pack", b, e, rowOf(set))
		}
	}
}

func TestPackLong(t *testing.T) {
	l := make([]int8, api.MaxElems+1)
	l[0], l[api.MaxElems-1] = 1, 1
	b, e := bits.Pack(l[:api.MaxElems]...)
	if e != api.OK || !same(b, many(api.MaxElems)) {
		t.Errorf("P2.1: Pack of 2^24 numbers: Len %d, %d words, %d", b.Len, len(b.Words), e)
	}
	b, e = bits.Pack(l...)
	refused(t, "P2.1: Pack of one more than 2^24", b, e, api.ErrLong)
}

func TestUnpack(t *testing.T) {
	l, e := bits.Unpack(row(3, 5))
	if e != api.OK || !slices.Equal(l, []int8{1, -1, 1}) {
		t.Errorf("P2.1: Unpack(Len 3: 5) = %v, %d", l, e)
	}
	for _, n := range lens {
		for _, set := range patterns(n) {
			l, e := bits.Unpack(rowOf(set))
			if e != api.OK || len(l) != n {
				t.Fatalf("P2.1: Unpack of %d bits: %d numbers, %d", n, len(l), e)
			}
			for i, s := range set {
				if s && l[i] != 1 || !s && l[i] != -1 {
					t.Fatalf("P2.1: Unpack of %d bits: number %d is %d, the bit %v", n, i, l[i], s)
				}
			}
			back, e := bits.Pack(l...)
			want(t, "P2.1: Pack of Unpack", back, e, rowOf(set))
		}
	}
	for _, f := range faulty() {
		if l, e := bits.Unpack(f.b); e != f.e || len(l) != 0 {
			t.Errorf("P2.1: Unpack, %s: %d numbers, %d, not %d", f.what, len(l), e, f.e)
		}
	}
	l, e = bits.Unpack(many(api.MaxElems))
	if e != api.OK || len(l) != api.MaxElems || l[0] != 1 || l[1] != -1 || l[api.MaxElems-1] != 1 {
		t.Errorf("P2.1: Unpack of 2^24 bits: %d numbers, %d", len(l), e)
	}
}

func TestCheck(t *testing.T) {
	for _, f := range faulty() {
		if e := bits.Check(f.b); e != f.e {
			t.Errorf("P2.2: Check, %s = %d, not %d", f.what, e, f.e)
		}
	}
	for _, b := range []api.Bits{
		{}, row(0), {Words: []uint64{}}, row(1, 0), row(1, 1), row(3, 7), row(63, full>>1), row(64, full), row(65, full, 1),
		row(128, full, full), many(api.MaxElems), many(api.MaxElems - 1),
	} {
		if e := bits.Check(b); e != api.OK {
			t.Errorf("P2.2: Check of a row of %d bits = %d", b.Len, e)
		}
	}
	for n := 1; n < 64; n++ {
		for bit := n; bit < 64; bit++ {
			if e := bits.Check(row(n, 1<<bit)); e != api.ErrBits {
				t.Errorf("P2.2: Check of %d bits with bit %d set = %d", n, bit, e)
			}
		}
	}
}

// TestCheckLong: a bit behind Len where the row nearly is the longest.
func TestCheckLong(t *testing.T) {
	b := many(api.MaxElems)
	b.Len--
	if e := bits.Check(b); e != api.ErrBits {
		t.Errorf("P2.2: Check of 2^24 - 1 bits with one behind them = %d", e)
	}
}

func TestTail(t *testing.T) {
	for _, n := range []int{0, -1, -5, -63, -64, -65, -128, math.MinInt, math.MinInt + 1} {
		if m := bits.Tail(n); m != 0 {
			t.Errorf("P2.3: Tail(%d) = %x, not 0", n, m)
		}
	}
	starts := []int{0, 64, 128, 1 << 24, 1 << 32, math.MaxInt - 63 - 64}
	for _, start := range starts {
		mask := uint64(0)
		for k := 1; k <= 64; k++ {
			mask = mask*2 + 1
			if m := bits.Tail(start + k); m != mask {
				t.Errorf("P2.3: Tail(%d) = %x, not %x", start+k, m, mask)
			}
		}
	}
	if m := bits.Tail(math.MaxInt); m != 1<<63-1 {
		t.Errorf("P2.3: Tail of the greatest number = %x", m)
	}
}

func TestAndXorNot(t *testing.T) {
	a, b := row(3, 5), row(3, 6)
	x, e := bits.And(a, b)
	want(t, "P2.4: And(5, 6)", x, e, row(3, 4))
	x, e = bits.Xor(a, b)
	want(t, "P2.4: Xor(5, 6)", x, e, row(3, 3))
	x, e = bits.Not(a)
	want(t, "P2.4: Not(5)", x, e, row(3, 2))
	x, e = bits.Not(row(64, 0))
	want(t, "P2.4: Not(Len 64: 0)", x, e, row(64, full))
	x, e = bits.Not(api.Bits{})
	want(t, "P2.4: Not of no bits", x, e, row(0))
	for _, n := range lens {
		for _, one := range patterns(n) {
			not := make([]bool, n)
			for i := range one {
				not[i] = !one[i]
			}
			x, e := bits.Not(rowOf(one))
			want(t, "P2.4: Not", x, e, rowOf(not))
			for _, two := range patterns(n) {
				testPair(t, one, two)
			}
		}
	}
}

func testPair(t *testing.T, one, two []bool) {
	t.Helper()
	both, differ := make([]bool, len(one)), make([]bool, len(one))
	for i := range one {
		both[i], differ[i] = one[i] && two[i], one[i] != two[i]
	}
	x, e := bits.And(rowOf(one), rowOf(two))
	want(t, "P2.4: And", x, e, rowOf(both))
	x, e = bits.Xor(rowOf(one), rowOf(two))
	want(t, "P2.4: Xor", x, e, rowOf(differ))
}

func TestAndXorNotFaults(t *testing.T) {
	pairs := map[string]func(a, b api.Bits) (api.Bits, api.Errno){"And": bits.And, "Xor": bits.Xor}
	for what, op := range pairs {
		x, e := op(row(3, 5), row(2, 1))
		refused(t, "P2.4: "+what+" of other Lens", x, e, api.ErrBits)
		x, e = op(row(64, 5), row(63, 5))
		refused(t, "P2.4: "+what+" of other Lens in as many words", x, e, api.ErrBits)
		x, e = op(row(0), row(1, 0))
		refused(t, "P2.4: "+what+" of none and one", x, e, api.ErrBits)
		x, e = op(row(1, 0), row(0))
		refused(t, "P2.4: "+what+" of one and none", x, e, api.ErrBits)
		for _, f := range faulty() {
			for _, other := range []api.Bits{{}, row(3, 5), row(-1), row(-2, 1), row(math.MaxInt), row(0, 0), row(5, 32)} {
				x, e := op(f.b, other)
				refused(t, "P2.4: "+what+", the first is faulty, "+f.what, x, e, f.e)
			}
			x, e := op(row(3, 5), f.b)
			refused(t, "P2.4: "+what+", the second is faulty, "+f.what, x, e, f.e)
		}
	}
	for _, f := range faulty() {
		x, e := bits.Not(f.b)
		refused(t, "P2.4: Not, "+f.what, x, e, f.e)
	}
}

func TestCount(t *testing.T) {
	if n, e := bits.Count(row(70, full, 3)); n != 66 || e != api.OK {
		t.Errorf("P2.5: Count(Len 70: 2^64 - 1, 3) = %d, %d", n, e)
	}
	for _, length := range lens {
		for _, set := range patterns(length) {
			count := 0
			for _, s := range set {
				if s {
					count++
				}
			}
			if n, e := bits.Count(rowOf(set)); n != count || e != api.OK {
				t.Errorf("P2.5: Count of %d bits = %d, %d, not %d", length, n, e, count)
			}
		}
	}
	for _, f := range faulty() {
		if n, e := bits.Count(f.b); n != 0 || e != f.e {
			t.Errorf("P2.5: Count, %s = %d, %d, not 0, %d", f.what, n, e, f.e)
		}
	}
	all, _ := bits.Not(row(api.MaxElems, make([]uint64, api.MaxElems/64)...))
	if n, e := bits.Count(all); n != api.MaxElems || e != api.OK {
		t.Errorf("P2.5: Count of 2^24 bits = %d, %d", n, e)
	}
}

func TestSlice(t *testing.T) {
	x, e := bits.Slice(row(70, 1<<63, 33), 63, 70)
	want(t, "P2.6: Slice(Len 70: 2^63, 33; 63, 70)", x, e, row(7, 67))
	x, e = bits.Slice(row(3, 5), 3, 3)
	want(t, "P2.6: Slice(Len 3: 5; 3, 3)", x, e, row(0))
	x, e = bits.Slice(api.Bits{}, 0, 0)
	want(t, "P2.6: Slice of no bits", x, e, row(0))
	for _, n := range lens {
		set := patterns(n)[5]
		whole, all := rowOf(set), rowOf(patterns(n)[1])
		for _, from := range cuts(n) {
			for _, to := range cuts(n) {
				if from > to {
					continue
				}
				x, e := bits.Slice(whole, from, to)
				want(t, "P2.6: Slice", x, e, rowOf(set[from:to]))
				x, e = bits.Slice(all, from, to)
				want(t, "P2.6: Slice of a row with all bits", x, e, rowOf(bitsOf(all)[from:to]))
			}
		}
	}
	longest := many(api.MaxElems)
	x, e = bits.Slice(longest, 0, api.MaxElems)
	if e != api.OK || !same(x, longest) {
		t.Errorf("P2.6: Slice, all of 2^24 bits: Len %d, %d", x.Len, e)
	}
	x, e = bits.Slice(longest, api.MaxElems-1, api.MaxElems)
	want(t, "P2.6: Slice, the last of 2^24 bits", x, e, row(1, 1))
}

// cuts are all places in a short row, and in a longer one those at and beside a word's border and its ends.
func cuts(n int) []int {
	var at []int
	for i := range n + 1 {
		if n <= 130 || i%64 <= 1 || i%64 >= 62 || i >= n-1 {
			at = append(at, i)
		}
	}
	return at
}

func TestSliceFaults(t *testing.T) {
	for _, c := range [][2]int{
		{2, 1}, {0, 4}, {-1, 2}, {3, 4}, {4, 4}, {4, 3}, {-1, -1}, {0, -1}, {1, 0}, {math.MinInt, 0}, {0, math.MaxInt},
		{math.MinInt, math.MaxInt}, {math.MaxInt, math.MinInt}, {math.MaxInt, math.MaxInt}, {math.MinInt, math.MinInt},
	} {
		x, e := bits.Slice(row(3, 5), c[0], c[1])
		refused(t, "P2.6: Slice of 3 bits", x, e, api.ErrArg)
	}
	x, e := bits.Slice(api.Bits{}, 0, 1)
	refused(t, "P2.6: Slice of no bits", x, e, api.ErrArg)
	x, e = bits.Slice(row(65, 1, 1), 0, 66)
	refused(t, "P2.6: Slice behind Len, within the word", x, e, api.ErrArg)
	for _, f := range faulty() {
		for _, c := range [][2]int{{0, 0}, {0, 1}, {-1, 2}, {2, 1}, {0, math.MaxInt}} {
			x, e := bits.Slice(f.b, c[0], c[1])
			refused(t, "P2.6: Slice, "+f.what, x, e, f.e)
		}
	}
}

func TestJoin(t *testing.T) {
	x, e := bits.Join(row(3, 5), row(0), row(2, 3))
	want(t, "P2.7: Join(Len 3: 5, Len 0, Len 2: 3)", x, e, row(5, 29))
	x, e = bits.Join()
	want(t, "P2.7: Join of none", x, e, row(0))
	x, e = bits.Join(api.Bits{}, row(0), api.Bits{Words: []uint64{}})
	want(t, "P2.7: Join of rows of no bits", x, e, row(0))
	for _, n := range lens {
		for _, m := range lens {
			one, two, all := patterns(n)[5], patterns(m)[6], patterns(65)[1]
			x, e := bits.Join(rowOf(one), rowOf(two))
			want(t, "P2.7: Join of two", x, e, rowOf(slices.Concat(one, two)))
			x, e = bits.Join(rowOf(two), rowOf(all), row(0), rowOf(one), rowOf(two))
			want(t, "P2.7: Join of five", x, e, rowOf(slices.Concat(two, all, one, two)))
		}
	}
	var ones []api.Bits
	var set []bool
	for i := range 200 {
		ones = append(ones, row(1, uint64(i%3%2)))
		set = append(set, i%3%2 == 1)
	}
	x, e = bits.Join(ones...)
	want(t, "P2.7: Join of 200 single bits", x, e, rowOf(set))
}

func TestJoinLong(t *testing.T) {
	const most = api.MaxElems
	x, e := bits.Join(many(most-1), row(1, 1))
	is := many(most)
	is.Words[len(is.Words)-1] |= 1 << 62
	if e != api.OK || !same(x, is) {
		t.Errorf("P2.7: Join to 2^24 bits: Len %d, %d", x.Len, e)
	}
	x, e = bits.Join(row(0), many(most), row(0))
	if e != api.OK || !same(x, many(most)) {
		t.Errorf("P2.7: Join of 2^24 bits with none: Len %d, %d", x.Len, e)
	}
	x, e = bits.Join(many(most), row(1, 1))
	refused(t, "P2.7: Join to one more than 2^24", x, e, api.ErrLong)
	x, e = bits.Join(many(most), many(most), many(most))
	refused(t, "P2.7: Join of three of the longest", x, e, api.ErrLong)
	x, e = bits.Join(many(most), row(1, 1), row(3, 8))
	refused(t, "P2.7: Join, a row's fault comes ahead of the length of all", x, e, api.ErrBits)
	x, e = bits.Join(many(most), row(1, 1), row(-1))
	refused(t, "P2.7: Join, a row's fault comes ahead of the length of all", x, e, api.ErrArg)
}

func TestJoinFaults(t *testing.T) {
	for _, f := range faulty() {
		for _, other := range []api.Bits{row(-1), row(math.MaxInt), row(3, 8)} {
			x, e := bits.Join(row(3, 5), f.b, other)
			refused(t, "P2.7: Join, "+f.what, x, e, f.e)
		}
		x, e := bits.Join(f.b)
		refused(t, "P2.7: Join of one, "+f.what, x, e, f.e)
	}
}

// TestFollows holds the calls to the chapter's section 'What follows'.
func TestFollows(t *testing.T) {
	for _, n := range lens {
		for k, set := range patterns(n) {
			a, b := rowOf(set), rowOf(patterns(n)[(k+5)%7])
			both, _ := bits.And(a, b)
			differ, _ := bits.Xor(a, b)
			if count(a)+count(b) != 2*count(both)+count(differ) {
				t.Errorf("P2.4, P2.5: the counts of %v and %v do not fit", a, b)
			}
			none, _ := bits.Xor(a, a)
			if count(none) != 0 {
				t.Errorf("P2.4: Xor of %v with itself has bits", a)
			}
			not, _ := bits.Not(a)
			back, e := bits.Not(not)
			want(t, "P2.4: Not of Not", back, e, a)
			if count(a)+count(not) != n {
				t.Errorf("P2.4, P2.5: the counts of %v and of its Not are not %d", a, n)
			}
			for _, at := range cuts(n) {
				x, _ := bits.Slice(a, 0, at)
				y, _ := bits.Slice(a, at, n)
				z, e := bits.Join(x, y)
				want(t, "P2.6, P2.7: cut and joined", z, e, a)
			}
		}
	}
}

func count(b api.Bits) int {
	n, _ := bits.Count(b)
	return n
}
