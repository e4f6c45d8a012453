package chunk_test

import (
	"slices"
	"testing"

	"heddle/api"
	"heddle/chunk"
)

// A second reading of the chapter: a container laid out and read by places, its sums the library's.

// dice rolls the same numbers in every run.
type dice uint64

func (d *dice) roll(least, most int) int {
	*d = *d*6364136223846793005 + 1442695040888963407
	return least + int(uint64(*d)>>31)%(most-least+1)
}

func (d *dice) bytes(n int) []byte {
	b := make([]byte, n)
	for i := range b {
		b[i] = byte(d.roll(0, 255))
	}
	return b
}

// chunks are some chunks, often empty or alike.
func (d *dice) chunks(most, long int) []api.Chunk {
	cs := make([]api.Chunk, d.roll(0, most))
	for i := range cs {
		cs[i] = api.Chunk{Tag: uint32(d.roll(0, 3)), Body: d.bytes(max(0, d.roll(-2, long)))}
		if d.roll(0, 3) == 0 {
			cs[i].Tag = uint32(d.roll(0, 1<<32-1))
		}
	}
	return cs
}

// number adds n, the lowest byte first.
func number(b []byte, n uint32) []byte {
	for range 4 {
		b, n = append(b, byte(n%256)), n/256
	}
	return b
}

// told is the number that begins at a place.
func told(b []byte, at int) int {
	n := 0
	for i := range 4 {
		n += int(b[at+i]) << (8 * i)
	}
	return n
}

// head is two numbers and their sum.
func head(kind, count uint32) []byte {
	b := number(number(nil, kind), count)
	return number(b, quick(b))
}

// laid is the container of these chunks, whatever its size.
func laid(m uint32, cs []api.Chunk) []byte {
	b := head(m, uint32(len(cs)))
	for _, c := range cs {
		b = append(append(b, head(c.Tag, uint32(len(c.Body)))...), c.Body...)
		b = number(b, quick(c.Body))
	}
	return b
}

// meant is what Read is to answer.
func meant(m uint32, b []byte) (cs []api.Chunk, e api.Errno) {
	sound := func(from, to int) bool { return int(quick(b[from:to])) == told(b, to) }
	switch {
	case len(b) > 1<<24:
		return nil, api.ErrLong
	case len(b) < 12:
		return nil, api.ErrShort
	case !sound(0, 8):
		return nil, api.ErrSum
	case told(b, 0) != int(m):
		return nil, api.ErrTag
	case told(b, 4) > 1024:
		return nil, api.ErrLong
	}
	at := 12
	for range told(b, 4) {
		if at+12 > len(b) {
			return nil, api.ErrShort
		}
		if !sound(at, at+8) {
			return nil, api.ErrSum
		}
		tag, from := told(b, at), at+12
		to := from + told(b, at+4)
		if to+4 > len(b) {
			return nil, api.ErrShort
		}
		if !sound(from, to) {
			return nil, api.ErrSum
		}
		cs, at = append(cs, api.Chunk{Tag: uint32(tag), Body: b[from:to]}), to+4
	}
	if at != len(b) {
		return nil, api.ErrTag
	}
	return cs, api.OK
}

// against holds Read to its meaning; where it answers chunks, Write answers the bytes again.
func against(t *testing.T, m uint32, b []byte) api.Errno {
	t.Helper()
	want, e := meant(m, b)
	if e == api.OK {
		reads(t, "by its meaning", m, b, want)
	} else {
		refused(t, "P8.3: by its meaning", m, b, e)
	}
	return e
}

// mended has right sums at these places of heads.
func mended(b []byte, heads ...int) []byte {
	b = slices.Clone(b)
	for _, at := range heads {
		if at+12 <= len(b) {
			copy(b[at+8:], number(nil, quick(b[at:at+8])))
		}
	}
	return b
}

func TestThereAndBack(t *testing.T) {
	var d dice = 85
	for range 3000 {
		m, cs := uint32(d.roll(0, 1<<32-1)), d.chunks(6, 30)
		writes(t, "some chunks", m, cs, laid(m, cs))
	}
}

// TestAnyBytes: containers with numbers changed under right sums, cut, filled up and spoilt, and bytes of no kind.
func TestAnyBytes(t *testing.T) {
	var d dice = 86
	seen := map[api.Errno]int{}
	for range 60000 {
		cs := d.chunks(4, 12)
		b := laid(magic, cs)
		heads, at := []int{0}, 12
		for _, c := range cs {
			heads, at = append(heads, at), at+16+len(c.Body)
		}
		for range d.roll(0, 2) {
			b = d.changed(b, heads)
		}
		seen[against(t, magic, b)]++
	}
	for range 2000 {
		seen[against(t, magic, d.bytes(d.roll(0, 60)))]++
	}
	for _, e := range []api.Errno{api.OK, api.ErrShort, api.ErrSum, api.ErrTag, api.ErrLong} {
		if seen[e] < 100 {
			t.Errorf("the test saw %d only %d times", e, seen[e])
		}
	}
}

// changed is another form of some bytes.
func (d *dice) changed(b []byte, heads []int) []byte {
	b = slices.Clone(b)
	at := heads[d.roll(0, len(heads)-1)]
	switch d.roll(0, 7) {
	case 0:
		return b[:d.roll(0, len(b))]
	case 1:
		return append(b, d.bytes(d.roll(1, 20))...)
	case 2, 3, 4: // the second number of a head, with a right sum
		if at+12 <= len(b) {
			n := told(b, at+4)
			copy(b[at+4:], number(nil, uint32(d.roll(max(0, n-3), n+3))))
			if d.roll(0, 2) == 0 {
				copy(b[at+4:], number(nil, uint32(d.roll(0, 1<<32-1))))
			}
			return mended(b, at)
		}
	case 5: // the first one
		if at+12 <= len(b) {
			copy(b[at:], number(nil, uint32(d.roll(magic-1, magic+1))))
			return mended(b, at)
		}
	case 6:
		if len(b) > 0 {
			b[d.roll(0, len(b)-1)] ^= byte(d.roll(1, 255))
		}
	case 7: // a piece again
		from := d.roll(0, len(b))
		return slices.Concat(b, b[from:d.roll(from, len(b))])
	}
	return b
}

// TestManyForms: two lists of chunks that are not the same have not the same bytes.
func TestManyForms(t *testing.T) {
	var d dice = 87
	forms := map[string][]api.Chunk{}
	for range 3000 {
		cs := d.chunks(3, 1)
		b, e := chunk.Write(magic, cs...)
		if e != api.OK {
			t.Fatalf("P8.2: %v: %d", cs, e)
		}
		if old, ok := forms[string(b)]; ok && !same(old, cs) {
			t.Errorf("P8.4: %v and %v are the same bytes", old, cs)
		}
		forms[string(b)] = cs
	}
}
