package chunk_test

import (
	"bytes"
	"slices"
	"testing"

	"heddle/api"
)

// other is a container with one byte as another one.
func other(b []byte, at int, by byte) []byte {
	b = slices.Clone(b)
	b[at] ^= by
	return b
}

// containers: of no chunk, of empty ones, of many, with noughts and with bytes of all kinds.
func containers() map[string][]byte {
	var d dice = 91
	return map[string][]byte{
		"no chunk":        laid(magic, nil),
		"magic 0":         laid(0, nil),
		"an empty Body":   laid(magic, []api.Chunk{{}}),
		"two empty":       laid(magic, []api.Chunk{{Tag: 5}, {Tag: 6}}),
		"noughts":         laid(0, []api.Chunk{{Body: make([]byte, 9)}, {}}),
		"a chunk":         laid(magic, []api.Chunk{of(7, "ab")}),
		"three":           laid(magic, []api.Chunk{of(7, "ab"), of(0xFEDCBA98, ""), of(7, "123456789")}),
		"a container's":   laid(magic, []api.Chunk{{Tag: 1, Body: laid(magic, []api.Chunk{of(2, "inner")})}}),
		"all bits":        laid(0xFFFFFFFF, []api.Chunk{{Tag: 0xFFFFFFFF, Body: bytes.Repeat([]byte{0xFF}, 8)}}),
		"any":             laid(magic, d.chunks(9, 40)),
		"1024 chunks":     laid(magic, make([]api.Chunk, 1024)),
		"a Body of 300":   laid(magic, []api.Chunk{{Tag: 1, Body: d.bytes(300)}}),
		"a chunk in 65 K": laid(magic, []api.Chunk{{Tag: 1, Body: d.bytes(70000)}, of(2, "x")}),
	}
}

// its is the magic of a container.
func its(b []byte) uint32 { return uint32(told(b, 0)) }

// spots are all places of few bytes, of many those at both ends and some between.
func spots(n int) []int {
	var list []int
	for i := range n {
		if n < 2000 || i < 60 || n-i < 60 || i%997 == 0 {
			list = append(list, i)
		}
	}
	return list
}

func TestFronts(t *testing.T) {
	for what, b := range containers() {
		reads(t, what, its(b), b, must(meant(its(b), b)))
		for _, i := range spots(len(b)) {
			refused(t, "P8.4: a front of "+what, its(b), b[:i], api.ErrShort)
		}
	}
}

func must(cs []api.Chunk, e api.Errno) []api.Chunk {
	if e != api.OK {
		panic("no container")
	}
	return cs
}

func TestEveryByteAsAnother(t *testing.T) {
	for what, b := range containers() {
		for _, i := range spots(len(b)) {
			for by := range 255 {
				if by++; len(b) < 200 || by&(by-1) == 0 || by == 255 {
					refused(t, "P8.5: a byte of "+what, its(b), other(b, i, byte(by)), api.ErrSum)
				}
			}
		}
	}
}

func TestNeighboursExchanged(t *testing.T) {
	for what, b := range containers() {
		for _, i := range spots(len(b) - 1) {
			if b[i] != b[i+1] {
				c := slices.Clone(b)
				c[i], c[i+1] = b[i+1], b[i]
				refused(t, "P8.5: neighbours in "+what, its(b), c, api.ErrSum)
			}
		}
	}
}

func TestBytesBehind(t *testing.T) {
	for what, b := range containers() {
		for _, more := range [][]byte{{0}, {1}, {0xFF}, make([]byte, 11), make([]byte, 12), make([]byte, 16), head(0, 0), laid(0, []api.Chunk{of(1, "a")})[12:], b} {
			refused(t, "P8.5: bytes behind "+what, its(b), slices.Concat(b, more), api.ErrTag)
		}
	}
	full := laid(magic, []api.Chunk{{Body: make([]byte, api.MaxBytes-28)}})
	reads(t, "MaxBytes bytes", magic, full, []api.Chunk{{Body: make([]byte, api.MaxBytes-28)}})
	refused(t, "P8.5: a byte behind MaxBytes bytes", magic, append(full, 0), api.ErrLong)
	short := laid(magic, []api.Chunk{{Body: make([]byte, api.MaxBytes-29)}})
	refused(t, "P8.5: a byte behind one fewer", magic, append(short, 0), api.ErrTag)
}

// TestTooLong: ErrLong stands ahead of all that the bytes say.
func TestTooLong(t *testing.T) {
	beyond := laid(magic, []api.Chunk{{Body: make([]byte, api.MaxBytes-27)}})
	refused(t, "P8.3: a container of a byte more", magic, beyond, api.ErrLong)
	refused(t, "P8.3: and another magic", magic+1, beyond, api.ErrLong)
	refused(t, "P8.3: and a wrong sum", magic, other(beyond, 0, 1), api.ErrLong)
	refused(t, "P8.3: noughts", 0, make([]byte, api.MaxBytes+1), api.ErrLong)
	refused(t, "P8.3: MaxBytes noughts", 0, make([]byte, api.MaxBytes), api.ErrSum)
	refused(t, "P8.3: its front", magic, beyond[:api.MaxBytes], api.ErrShort)
}

func TestHead(t *testing.T) {
	for n := range 12 {
		refused(t, "P8.3: few noughts", magic, make([]byte, n), api.ErrShort)
		refused(t, "P8.3: few bytes", magic, head(magic, 0)[:n], api.ErrShort)
		refused(t, "P8.3: few bytes of another magic", magic, head(magic+1, 2000)[:n], api.ErrShort)
	}
	refused(t, "P8.3: nil", magic, nil, api.ErrShort)
	for _, m := range []uint32{0, 1, magic - 1, magic + 1, magic ^ 1<<31, 0x74646800, 0x68647431, 0xFFFFFFFF} {
		refused(t, "P8.3: another magic", magic, head(m, 0), api.ErrTag)
		refused(t, "P8.3: asked for another", m, head(magic, 0), api.ErrTag)
		refused(t, "P8.3: another magic and too many chunks", m, head(magic, 1025), api.ErrTag)
		refused(t, "P8.3: another magic and chunks that are not there", m, head(magic, 3), api.ErrTag)
		refused(t, "P8.3: another magic and bytes behind", m, append(head(magic, 0), 7), api.ErrTag)
		refused(t, "P8.3: another magic and a wrong sum", m, other(head(magic, 0), 9, 4), api.ErrSum)
	}
	for _, n := range []uint32{1025, 1026, 2048, 65536, 1 << 24, 1<<31 - 1, 1 << 31, 1<<32 - 1024, 1<<32 - 1} {
		refused(t, "P8.3: too many chunks", magic, head(magic, n), api.ErrLong)
		refused(t, "P8.3: too many chunks and a wrong sum", magic, other(head(magic, n), 11, 128), api.ErrSum)
		refused(t, "P8.3: too many chunks and bytes that are none", magic, append(head(magic, n), make([]byte, 50)...), api.ErrLong)
	}
	refused(t, "P8.3: 1025 chunks that are there", magic, laid(magic, make([]api.Chunk, 1025)), api.ErrLong)
	for _, n := range []uint32{1, 2, 1023, 1024} {
		refused(t, "P8.3: chunks that are not there", magic, head(magic, n), api.ErrShort)
	}
}

// TestNumberOfChunks: one fewer than there are, and one more.
func TestNumberOfChunks(t *testing.T) {
	b := laid(magic, []api.Chunk{of(1, "a"), of(2, "bc")})
	for n, e := range []api.Errno{api.ErrTag, api.ErrTag, api.OK, api.ErrShort, api.ErrShort} {
		c := slices.Concat(head(magic, uint32(n)), b[12:])
		if got := against(t, magic, c); got != e {
			t.Errorf("P8.3: %d chunks of 2: %d, not %d", n, got, e)
		}
	}
}

// TestLength: lengths that are not the Body's, under right sums.
func TestLength(t *testing.T) {
	front, body := head(magic, 1), append([]byte("abcdef"), number(nil, quick([]byte("abcdef")))...)
	for n, e := range map[uint32]api.Errno{
		0: api.ErrSum, 5: api.ErrSum, 6: api.OK, 7: api.ErrShort, 8: api.ErrShort, 10: api.ErrShort, 11: api.ErrShort, 1 << 16: api.ErrShort, 1 << 24: api.ErrShort,
		1<<31 - 5: api.ErrShort, 1<<31 - 1: api.ErrShort, 1 << 31: api.ErrShort, 1<<32 - 6: api.ErrShort, 1<<32 - 4: api.ErrShort, 1<<32 - 3: api.ErrShort, 1<<32 - 1: api.ErrShort,
	} {
		c := slices.Concat(front, head(9, n), body)
		if got := against(t, magic, c); got != e {
			t.Errorf("P8.3: a length of %d for 6: %d, not %d", n, got, e)
		}
		refused(t, "P8.3: and a wrong sum of the chunk's head", magic, other(c, 23, 1), api.ErrSum)
		if e == api.ErrShort {
			refused(t, "P8.3: too few bytes and a wrong sum of the Body", magic, other(c, 24, 1), api.ErrShort)
		}
	}
	// With an empty Body nothing but the four bytes of its sum may be missing.
	for n := range 4 {
		refused(t, "P8.3: the sum of an empty Body", magic, slices.Concat(front, head(9, 0), make([]byte, n)), api.ErrShort)
	}
	reads(t, "an empty Body", magic, slices.Concat(front, head(9, 0), make([]byte, 4)), []api.Chunk{{Tag: 9}})
}

// TestFirstFault: of two faults the one that stands further in front.
func TestFirstFault(t *testing.T) {
	b := laid(magic, []api.Chunk{of(1, "abc"), of(2, "defg")}) // chunks at 12 and 31, 51 bytes
	for _, x := range []struct {
		what string
		b    []byte
		m    uint32
		e    api.Errno
	}{
		{"the head's sum, then too short", other(b, 8, 1)[:40], magic, api.ErrSum},
		{"another magic, then a wrong sum", other(b, 12, 1), magic + 1, api.ErrTag},
		{"another magic, then too short", b[:20], magic + 1, api.ErrTag},
		{"another magic, then bytes behind", append(slices.Clone(b), 1), magic + 1, api.ErrTag},
		{"the first chunk's head, then too short", other(b, 20, 1)[:30], magic, api.ErrSum},
		{"fewer than 12 bytes, spoilt", other(b, 12, 1)[:23], magic, api.ErrShort},
		{"12 bytes, spoilt", other(b, 12, 1)[:24], magic, api.ErrSum},
		{"12 bytes", b[:24], magic, api.ErrShort},
		{"a spoilt Body, its sum cut", other(b, 24, 1)[:30], magic, api.ErrShort},
		{"a spoilt Body, its sum there", other(b, 24, 1)[:31], magic, api.ErrSum},
		{"the first Body, then too short", other(b, 24, 1)[:35], magic, api.ErrSum},
		{"the first Body's sum, then too short", other(b, 30, 1)[:50], magic, api.ErrSum},
		{"the second chunk cut, then nothing", other(b, 50, 1)[:50], magic, api.ErrShort},
		{"the last byte, then bytes behind", append(other(b, 50, 1), 1), magic, api.ErrSum},
		{"too short, a spoilt byte cut away", other(b, 45, 1)[:45], magic, api.ErrShort},
		{"a long length, then a spoilt chunk", slices.Concat(head(magic, 2), head(1, 99), other(b, 40, 1)[24:]), magic, api.ErrShort},
		{"two of two chunks, bytes behind", append(slices.Clone(b), head(3, 0)...), magic, api.ErrTag},
		{"three of two chunks, a few bytes behind", slices.Concat(head(magic, 3), b[12:], make([]byte, 11)), magic, api.ErrShort},
		{"three of two chunks, 12 bytes behind", slices.Concat(head(magic, 3), b[12:], make([]byte, 12)), magic, api.ErrSum},
		{"chunks exchanged", slices.Concat(b[:12], b[31:], b[12:31]), magic, api.OK},
	} {
		if got := against(t, x.m, x.b); got != x.e {
			t.Errorf("P8.3: %s: %d, not %d", x.what, got, x.e)
		}
	}
}
