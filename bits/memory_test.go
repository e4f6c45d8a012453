package bits_test

import (
	"slices"
	"testing"

	"heddle/api"
	"heddle/bits"
)

// calls are all calls that answer a row, each made of two rows of one Len.
func calls() map[string]func(a, b api.Bits) (api.Bits, api.Errno) {
	return map[string]func(a, b api.Bits) (api.Bits, api.Errno){
		"And":                 bits.And,
		"Xor":                 bits.Xor,
		"Not":                 func(a, b api.Bits) (api.Bits, api.Errno) { return bits.Not(a) },
		"Slice, all":          func(a, b api.Bits) (api.Bits, api.Errno) { return bits.Slice(a, 0, a.Len) },
		"Slice, the end":      func(a, b api.Bits) (api.Bits, api.Errno) { return bits.Slice(a, a.Len/2, a.Len) },
		"Slice, from a word":  func(a, b api.Bits) (api.Bits, api.Errno) { return bits.Slice(a, min(64, a.Len), a.Len) },
		"Slice, to a word":    func(a, b api.Bits) (api.Bits, api.Errno) { return bits.Slice(a, 0, min(64, a.Len)) },
		"Slice, nothing":      func(a, b api.Bits) (api.Bits, api.Errno) { return bits.Slice(a, 0, 0) },
		"Join, one":           func(a, b api.Bits) (api.Bits, api.Errno) { return bits.Join(a) },
		"Join, two":           func(a, b api.Bits) (api.Bits, api.Errno) { return bits.Join(a, b) },
		"Join, one with none": func(a, b api.Bits) (api.Bits, api.Errno) { return bits.Join(row(0), a, row(0)) },
		"Join, the same one":  func(a, b api.Bits) (api.Bits, api.Errno) { return bits.Join(b, a, a, b) },
	}
}

// roomy is the row in memory with spare room behind it, in which every word is marked.
func roomy(b api.Bits) api.Bits {
	words := append(slices.Clone(b.Words), 0xabcd, 0xabcd, 0xabcd)
	return api.Bits{Len: b.Len, Words: words[:len(b.Words)]}
}

// overwrite marks all of a row's memory, its spare room too.
func overwrite(b api.Bits) {
	words := b.Words[:cap(b.Words)]
	for i := range words {
		words[i] = 0xfefe
	}
}

func copied(b api.Bits) api.Bits { return api.Bits{Len: b.Len, Words: slices.Clone(b.Words)} }

// TestRowsMayBe: each row that is answered may be.
func TestRowsMayBe(t *testing.T) {
	for what, call := range calls() {
		for _, n := range lens {
			for k, set := range patterns(n) {
				x, e := call(rowOf(set), rowOf(patterns(n)[(k+1)%7]))
				if e != api.OK || bits.Check(x) != api.OK {
					t.Errorf("P2.8: %s of %d bits answers %v, %d", what, n, x, e)
				}
			}
		}
	}
	x, e := bits.Pack(make([]int8, 65)...)
	if e != api.OK || bits.Check(x) != api.OK {
		t.Errorf("P2.8: Pack answers %v, %d", x, e)
	}
}

// TestArgumentsStay: what is handed in is neither changed nor kept, its spare room neither.
func TestArgumentsStay(t *testing.T) {
	for what, call := range calls() {
		for _, n := range lens {
			one, two := rowOf(patterns(n)[5]), rowOf(patterns(n)[6])
			a, b := roomy(one), roomy(two)
			room := len(a.Words) + 3
			x, _ := call(a, b)
			for _, was := range [][2]api.Bits{{a, one}, {b, two}} {
				if !same(was[0], was[1]) || !slices.Equal(was[0].Words[len(was[0].Words):room], []uint64{0xabcd, 0xabcd, 0xabcd}) {
					t.Errorf("P2.8: %s of %d bits changed what was handed in", what, n)
				}
			}
			answer := copied(x)
			overwrite(a)
			overwrite(b)
			if !same(x, answer) {
				t.Errorf("P2.8: the answer of %s of %d bits lies in what was handed in", what, n)
			}
		}
	}
}

// TestAnswersAreNew: who writes into an answer or appends to it changes no argument and no other answer.
func TestAnswersAreNew(t *testing.T) {
	for what, call := range calls() {
		for _, n := range lens {
			one, two := rowOf(patterns(n)[5]), rowOf(patterns(n)[6])
			a, b := roomy(one), roomy(two)
			room := len(a.Words) + 3
			x, _ := call(a, b)
			y, _ := call(a, b)
			answer := copied(y)
			overwrite(x)
			_ = append(x.Words, 1)
			if !same(y, answer) {
				t.Errorf("P2.8: two answers of %s of %d bits share memory", what, n)
			}
			if !same(a, one) || !same(b, two) || a.Words[:room][room-1] != 0xabcd || b.Words[:room][room-1] != 0xabcd {
				t.Errorf("P2.8: writing into the answer of %s of %d bits changed what was handed in", what, n)
			}
			z, e := call(a, b)
			want(t, "P0.5: "+what+" asked again", z, e, answer)
		}
	}
}

// TestJoinKeepsItsList: the list of rows itself stays as it was.
func TestJoinKeepsItsList(t *testing.T) {
	l := []api.Bits{row(3, 5), row(2, 3), row(64, 7), row(9, 1)}
	bits.Join(l[:2]...)
	for i, b := range []api.Bits{row(3, 5), row(2, 3), row(64, 7), row(9, 1)} {
		if !same(l[i], b) {
			t.Errorf("P2.8: Join changed row %d of its list to %v", i, l[i])
		}
	}
}

// TestNumbersStay: the lists of numbers of Pack and Unpack.
func TestNumbersStay(t *testing.T) {
	spare := []int8{1, -1, 5, 0, 77, 77}
	b, _ := bits.Pack(spare[:4]...)
	if !slices.Equal(spare, []int8{1, -1, 5, 0, 77, 77}) {
		t.Errorf("P2.8: Pack changed its numbers to %v", spare)
	}
	clear(spare)
	if !same(b, row(4, 5)) {
		t.Errorf("P2.8: Pack kept its numbers: %v", b)
	}
	a := roomy(row(70, 9, 33))
	one, _ := bits.Unpack(a)
	two, _ := bits.Unpack(a)
	was := slices.Clone(two)
	one = one[:cap(one)]
	for i := range one {
		one[i] = 99
	}
	if !slices.Equal(two, was) || !same(a, row(70, 9, 33)) || a.Words[:5][4] != 0xabcd {
		t.Errorf("P2.8: writing into the answer of Unpack changed another or what was handed in")
	}
	bits.Count(a)
	bits.Check(a)
	if !same(a, row(70, 9, 33)) || a.Words[:5][4] != 0xabcd {
		t.Errorf("P2.8: Count or Check changed what was handed in")
	}
}
