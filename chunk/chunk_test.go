package chunk_test

import (
	"bytes"
	"encoding/hex"
	"hash/crc32"
	"slices"
	"strings"
	"testing"

	"heddle/api"
	"heddle/chunk"
)

// magic is that of the document's example.
const magic = 0x31746468

// of is a chunk of a text.
func of(tag uint32, body string) api.Chunk { return api.Chunk{Tag: tag, Body: []byte(body)} }

// same: an empty Body and none are alike.
func same(a, b []api.Chunk) bool {
	return slices.EqualFunc(a, b, func(x, y api.Chunk) bool { return x.Tag == y.Tag && bytes.Equal(x.Body, y.Body) })
}

// writes: Write answers want, and Read answers the chunks again.
func writes(t *testing.T, what string, m uint32, cs []api.Chunk, want []byte) {
	t.Helper()
	if b, e := chunk.Write(m, cs...); e != api.OK || !bytes.Equal(b, want) {
		t.Errorf("P8.2: %s: %.200x, %d, not %.200x", what, b, e, want)
	}
	reads(t, what, m, want, cs)
}

// reads: Read answers these chunks, and Write the bytes again.
func reads(t *testing.T, what string, m uint32, b []byte, want []api.Chunk) {
	t.Helper()
	cs, e := chunk.Read(m, b)
	if e != api.OK || !same(cs, want) {
		t.Errorf("P8.3: %s: %d chunks of %d, %d", what, len(cs), len(want), e)
	}
	if again, e := chunk.Write(m, cs...); e != api.OK || !bytes.Equal(again, b) {
		t.Errorf("P8.4: %s: read and written: %d bytes of %d, %d", what, len(again), len(b), e)
	}
}

// refused: Read answers e, and no chunks.
func refused(t *testing.T, what string, m uint32, b []byte, e api.Errno) {
	t.Helper()
	if cs, got := chunk.Read(m, b); got != e || cs != nil {
		t.Errorf("%s: %d chunks, %d, not %d", what, len(cs), got, e)
	}
}

// unwritten: Write answers ErrLong, and no bytes.
func unwritten(t *testing.T, what string, cs ...api.Chunk) {
	t.Helper()
	if b, e := chunk.Write(magic, cs...); e != api.ErrLong || b != nil {
		t.Errorf("P8.2: %s: %d bytes, %d", what, len(b), e)
	}
}

// hexed are the bytes that are written in hex, blanks between them left out.
func hexed(s string) []byte {
	b, err := hex.DecodeString(strings.ReplaceAll(s, " ", ""))
	if err != nil {
		panic(err)
	}
	return b
}

// bitwise is the sum, worked out a bit at a time.
func bitwise(b []byte) uint32 {
	register := uint32(0xFFFFFFFF)
	for _, x := range b {
		for i := range 8 {
			turned := register&1 != uint32(x)>>i&1
			register >>= 1
			if turned {
				register ^= 0xEDB88320
			}
		}
	}
	return ^register
}

// quick is the sum as the library has it: for bytes that are many.
func quick(b []byte) uint32 { return crc32.ChecksumIEEE(b) }

func TestExamplesOfTheDocument(t *testing.T) {
	if s := chunk.Sum(); s != 0 {
		t.Errorf("P8.1: of no lists %X", s)
	}
	if s := chunk.Sum([]byte("12345"), []byte("6789")); s != 0xCBF43926 {
		t.Errorf("P8.1: of 12345 and 6789 %X", s)
	}
	none := hexed("68647431 00000000")
	none = number(none, bitwise(none))
	writes(t, "none", magic, nil, none)
	refused(t, "P8.3: 11 bytes", magic, none[:11], api.ErrShort)
	refused(t, "P8.3: 11 other bytes", magic, make([]byte, 11), api.ErrShort)
	refused(t, "P8.3: a byte 00 behind", magic, append(slices.Clone(none), 0), api.ErrTag)
	refused(t, "P8.3: another magic", magic+1, none, api.ErrTag)
	b, e := chunk.Write(magic, of(7, "ab"))
	if e != api.OK || len(b) != 30 || !bytes.Equal(b[12:20], hexed("07000000 02000000")) || !bytes.Equal(b[24:26], hexed("61 62")) {
		t.Errorf("P8.2: of ab: %x, %d", b, e)
	}
	for _, x := range [][]byte{none, b} {
		refused(t, "P8.5: the last byte turned", magic, other(x, len(x)-1, 0xFF), api.ErrSum)
		refused(t, "P8.5: the magic's first byte turned", magic, other(x, 0, 0xFF), api.ErrSum)
	}
}

// TestWrittenOut: containers as bytes that were worked out elsewhere.
func TestWrittenOut(t *testing.T) {
	for _, x := range []struct {
		what, bytes string
		m           uint32
		cs          []api.Chunk
	}{
		{"no chunk", "68647431 00000000 " + sumOf("68647431 00000000"), magic, nil},
		{"magic 0", "00000000 00000000 69DF2265", 0, nil},
		{"magic of all bits", "FFFFFFFF 00000000 " + sumOf("FFFFFFFF 00000000"), 0xFFFFFFFF, nil},
		{"an empty Body", "04030201 01000000 " + sumOf("04030201 01000000") + " 00000000 00000000 69DF2265 00000000", 0x01020304, []api.Chunk{{}}},
		{"nine bytes", "04030201 01000000 " + sumOf("04030201 01000000") + " 0D0C0B0A 09000000 " + sumOf("0D0C0B0A 09000000") + " 313233343536373839 2639F4CB", 0x01020304, []api.Chunk{of(0x0A0B0C0D, "123456789")}},
		{"two of a kind", "01000000 02000000 " + sumOf("01000000 02000000") + strings.Repeat(" FFFFFFFF 01000000 "+sumOf("FFFFFFFF 01000000")+" 61 "+sumOf("61"), 2), 1, []api.Chunk{of(0xFFFFFFFF, "a"), of(0xFFFFFFFF, "a")}},
	} {
		writes(t, x.what, x.m, x.cs, hexed(x.bytes))
	}
}

// sumOf is the sum of bytes, both in hex.
func sumOf(s string) string { return hex.EncodeToString(number(nil, bitwise(hexed(s)))) }

func TestSum(t *testing.T) {
	for what, s := range map[string]uint32{"no lists": chunk.Sum(), "nil": chunk.Sum(nil), "an empty list": chunk.Sum([]byte{}), "empty lists": chunk.Sum(nil, []byte{}, nil), "a nil list of lists": chunk.Sum([][]byte(nil)...)} {
		if s != 0 {
			t.Errorf("P8.1: %s: %X", what, s)
		}
	}
	digits := []byte("123456789")
	for i := range len(digits) + 1 {
		for k := i; k <= len(digits); k++ {
			if s := chunk.Sum(digits[:i], digits[i:k], nil, digits[k:]); s != 0xCBF43926 {
				t.Errorf("P8.1: cut at %d and %d: %X", i, k, s)
			}
		}
	}
	if a, b := chunk.Sum(digits[:4], digits[4:]), chunk.Sum(digits[4:], digits[:4]); a == b {
		t.Error("P8.1: the order of the lists is not told")
	}
}

func TestSumAgainstBits(t *testing.T) {
	for x := range 256 {
		if b := []byte{byte(x)}; chunk.Sum(b) != bitwise(b) {
			t.Errorf("P8.1: of %x: %X, not %X", b, chunk.Sum(b), bitwise(b))
		}
	}
	var d dice = 81
	for n := range 300 {
		b := d.bytes(n)
		want := bitwise(b)
		if quick(b) != want {
			t.Fatal("the sums of the test are not alike")
		}
		lists := make([][]byte, 0, n)
		for left := b; len(left) > 0; {
			k := d.roll(0, len(left))
			lists, left = append(lists, left[:k]), left[k:]
		}
		if s := chunk.Sum(lists...); s != want || chunk.Sum(b) != want {
			t.Errorf("P8.1: of %x in %d lists: %X, not %X", b, len(lists), s, want)
		}
	}
	long := d.bytes(api.MaxBytes + 1) // the sum has no bound of its own
	if s := chunk.Sum(long, long); s != quick(slices.Concat(long, long)) {
		t.Errorf("P8.1: of many bytes: %X", s)
	}
}

func TestNumbersOfChunks(t *testing.T) {
	var d dice = 82
	for _, n := range []int{0, 1, 2, 255, 256, 257, 1023, 1024} {
		empty := make([]api.Chunk, n)
		writes(t, "empty chunks", magic, empty, laid(magic, empty))
		cs := make([]api.Chunk, n)
		for i := range cs {
			cs[i] = api.Chunk{Tag: uint32(d.roll(0, 1<<32-1)), Body: d.bytes(d.roll(0, 20))}
		}
		writes(t, "chunks", magic, cs, laid(magic, cs))
	}
	for _, n := range []int{1025, 1026, 2048, 65536 + 3} {
		unwritten(t, "too many chunks", make([]api.Chunk, n)...)
	}
}

// TestLengths: each length about the places where its bytes change.
func TestLengths(t *testing.T) {
	var d dice = 83
	for _, n := range []int{0, 1, 2, 3, 4, 5, 7, 8, 9, 255, 256, 257, 65535, 65536, 65537, 1<<20 + 1} {
		cs := []api.Chunk{{Tag: 1, Body: d.bytes(n)}, of(2, "behind")}
		writes(t, "a Body", magic, cs, laid(magic, cs))
	}
}

func TestMaxBytes(t *testing.T) {
	var d dice = 84
	one := d.bytes(api.MaxBytes - 28)
	full := []api.Chunk{{Tag: 3, Body: one}}
	writes(t, "one of MaxBytes bytes", magic, full, laid(magic, full))
	many := make([]api.Chunk, 1024)
	for i := range many {
		many[i] = api.Chunk{Tag: uint32(i), Body: one[:api.MaxBytes/1024-16]}
	}
	many[1023].Body = one[:api.MaxBytes/1024-28]
	writes(t, "1024 chunks in MaxBytes bytes", magic, many, laid(magic, many))
	halves := []api.Chunk{{Body: one[:api.MaxBytes/2-20]}, {Body: one[:api.MaxBytes/2-24]}}
	writes(t, "two halves", magic, halves, laid(magic, halves))

	unwritten(t, "a byte more", api.Chunk{Body: d.bytes(api.MaxBytes - 27)})
	unwritten(t, "a chunk more", full[0], api.Chunk{})
	many[511].Body = one[:api.MaxBytes/1024-15]
	unwritten(t, "a byte more in 1024", many...)
	halves[1].Body = one[:api.MaxBytes/2-23]
	unwritten(t, "a byte more of two halves", halves...)
	unwritten(t, "a Body of MaxBytes bytes", api.Chunk{Body: make([]byte, api.MaxBytes)})
	unwritten(t, "too many and too long", slices.Repeat(full, 1025)...)
	// The bytes together would be 2^34: a length in 32 bits would wrap round to a small one.
	unwritten(t, "one Body again and again", slices.Repeat([]api.Chunk{{Body: make([]byte, api.MaxBytes)}}, 1024)...)
}
