package convert_test

import (
	"bytes"
	"slices"
	"testing"

	"heddle/api"
	"heddle/chunk"
	"heddle/convert"
	"heddle/net"
	"heddle/packed"
	"heddle/source"
	"heddle/text"
)

// magic is that of a source.
const magic = 0x63727368

// against holds Convert against source.Decode: its error and no bytes, or the bytes of the model that is meant.
func against(t *testing.T, what string, src []byte) api.Errno {
	t.Helper()
	n, e := source.Decode(src)
	if e != api.OK {
		unwritten(t, what, src, e)
		return e
	}
	b, got := convert.Convert(src)
	m, back := packed.Decode(b)
	if got != api.OK || back != api.OK || !same(m, meant(n)) {
		t.Errorf("P20.2, P20.4: %s: Convert = %.300x, %d, of which Decode is %s, %d", what, b, got, show(m), back)
	}
	return got
}

// container is a container with right sums.
func container(t *testing.T, m uint32, cs ...api.Chunk) []byte {
	t.Helper()
	b, e := chunk.Write(m, cs...)
	if e != api.OK {
		t.Fatalf("the test's own chunks: %d", e)
	}
	return b
}

// chunksOf are the chunks of a network's source.
func chunksOf(t *testing.T, n api.Net) []api.Chunk {
	t.Helper()
	cs, e := chunk.Read(magic, sourceOf(t, n))
	if e != api.OK {
		t.Fatalf("the test's own source: %d", e)
	}
	return cs
}

// small has a layer of each kind, and few bytes.
func small() api.Net {
	return network(of(2, 2, 1), conv(1, win(1, 2, 1, 1, 0, 1, 0, 0), 1), pool(win(2, 1, 1, 1, 0, 0, 0, 0)), dense(1, 2), last(1, 1))
}

// TestDamage: every byte of a source as some other one, neighbours exchanged, every front.
func TestDamage(t *testing.T) {
	for _, n := range []api.Net{tiny(), small(), edge(), mixed()} {
		b := sourceOf(t, n)
		for i := range b {
			for _, turned := range []byte{1, 2, 16, 128, 255} {
				c := slices.Clone(b)
				c[i] ^= turned
				unwritten(t, "a byte turned", c, api.ErrSum)
			}
			if i > 0 && b[i] != b[i-1] {
				c := slices.Clone(b)
				c[i], c[i-1] = c[i-1], c[i]
				unwritten(t, "two bytes exchanged", c, api.ErrSum)
			}
			unwritten(t, "a front", b[:i], api.ErrShort)
		}
		unwritten(t, "a byte more", append(slices.Clone(b), 0), api.ErrTag)
		unwritten(t, "twice", slices.Concat(b, b), api.ErrTag)
	}
}

// TestEveryByteOfTheChunks puts bytes at every place of some chunks, under right sums.
func TestEveryByteOfTheChunks(t *testing.T) {
	good := 0
	for _, n := range []api.Net{tiny(), small()} {
		cs := chunksOf(t, n)
		for i := range cs {
			body := cs[i].Body
			for at := range body {
				for x := range 256 {
					cs[i].Body = slices.Clone(body)
					cs[i].Body[at] = byte(x)
					if against(t, "a byte of a chunk", container(t, magic, cs...)) == api.OK {
						good++
					}
				}
				cs[i].Body = body[:at]
				against(t, "a chunk cut off", container(t, magic, cs...))
				cs[i].Body = slices.Insert(slices.Clone(body), at, 0)
				against(t, "a longer chunk", container(t, magic, cs...))
			}
			cs[i].Body = body
		}
	}
	if good < 1000 {
		t.Errorf("the test's own chunks: %d are a network's", good)
	}
}

// TestChunks: chunks under right sums that are not a network's.
func TestChunks(t *testing.T) {
	for _, n := range []api.Net{tiny(), edge(), mixed()} {
		cs := chunksOf(t, n)
		bad := func(how string, cs ...api.Chunk) {
			t.Helper()
			unwritten(t, how, container(t, magic, cs...), api.ErrSource)
			against(t, how, container(t, magic, cs...))
		}
		writes(t, "its own chunks", container(t, magic, cs...), fileOf(t, n))
		bad("none")
		bad("the layers alone", cs[1:]...)
		bad("twice", slices.Concat(cs, cs)...)
		for i, c := range cs {
			bad("a front", cs[:i]...)
			bad("one less", slices.Delete(slices.Clone(cs), i, i+1)...)
			bad("one twice", slices.Insert(slices.Clone(cs), i, c)...)
			bad("one of nothing more", slices.Insert(slices.Clone(cs), i, api.Chunk{})...)
			bad("another Tag", slices.Replace(slices.Clone(cs), i, i+1, api.Chunk{Tag: c.Tag + 4, Body: c.Body})...)
			bad("an empty one", slices.Replace(slices.Clone(cs), i, i+1, api.Chunk{Tag: c.Tag})...)
			for k := range i {
				swapped := slices.Clone(cs)
				swapped[i], swapped[k] = swapped[k], swapped[i]
				bad("two exchanged", swapped...)
			}
		}
		for _, m := range []uint32{0, magic + 1, 0x706c6468, 1<<32 - 1} {
			unwritten(t, "another magic", container(t, m, cs...), api.ErrTag)
		}
		unwritten(t, "a packed model", fileOf(t, n), api.ErrTag)
		s, _ := text.Print(n)
		unwritten(t, "a text", []byte(s), api.ErrSum)
	}
}

// fileOf is the packed model's bytes of a network, by the second reading.
func fileOf(t *testing.T, n api.Net) []byte {
	t.Helper()
	b, e := packed.Encode(meant(n))
	if e != api.OK {
		t.Fatalf("the test's own model: %d", e)
	}
	return b
}

// TestBodies: chunks of networks that may not be, and such as tell far more than there is.
func TestBodies(t *testing.T) {
	cs := chunksOf(t, tiny())
	for what, body := range map[string]string{
		"a spare bit":         "020200611505000000fbffffff",
		"a weight 3":          "020200630505000000fbffffff",
		"Binary with a 0":     "010200610505000000fbffffff",
		"a byte more":         "020200610505000000fbffffff00",
		"a bias out of reach": "0202006105ffffff7ffbffffff",
		"outputs":             "02ffff610505000000fbffffff",
		"no outputs":          "020000",
	} {
		unwritten(t, what, container(t, magic, cs[0], api.Chunk{Tag: 3, Body: hexed(body)}), api.ErrSource)
	}
	for what, head := range map[string]string{"a name": "0474692e79010001000300 01", "no name": "00010001000300 01", "an input": "0474696e79ffffffffffff 01", "layers": "0474696e79010001000300 ff", "no layers": "0474696e79010001000300 00"} {
		unwritten(t, what, container(t, magic, api.Chunk{Tag: 1, Body: hexed(head)}, cs[1]), api.ErrSource)
	}
	good := container(t, magic, cs[0], api.Chunk{Tag: 3, Body: hexed("020200620505000000fbffffff")})
	n := tiny()
	n.Layers[0].Weights[0] = -1
	writes(t, "another weight", good, fileOf(t, n))
}

// spoil changes chunks in any places: bytes, ends, Tags, order.
func (d *dice) spoil(cs []api.Chunk) []api.Chunk {
	if len(cs) == 0 {
		return cs
	}
	cs = slices.Clone(cs)
	at := d.roll(0, len(cs)-1)
	body := slices.Clone(cs[at].Body)
	spot := d.roll(0, len(body))
	x := byte(one(d, []int{0, 1, 2, 3, 4, 5, 14, 15, 16, 63, 64, 127, 128, 254, 255, d.roll(0, 255)}))
	switch d.roll(0, 11) {
	default: // another byte
		if spot < len(body) {
			body[spot] = x
		}
	case 0:
		body = slices.Insert(body, spot, x)
	case 1:
		body = body[:spot]
	case 2:
		cs[at].Tag = uint32(d.roll(0, 5))
	case 3: // a chunk less
		return slices.Delete(cs, at, at+1)
	case 4: // twice
		return slices.Insert(cs, at, cs[at])
	}
	cs[at].Body = body
	return cs
}

// TestAnyBytes: good chunks spoilt under right sums, and bytes that are no container's.
func TestAnyBytes(t *testing.T) {
	d := dice(202)
	list := []api.Net{tiny(), edge(), mixed(), small()}
	for range 8 {
		list = append(list, d.network())
	}
	good := 0
	for range 4000 {
		cs := chunksOf(t, one(&d, list))
		for range d.roll(1, 2) {
			cs = d.spoil(cs)
		}
		if against(t, "spoilt chunks", container(t, magic, cs...)) == api.OK {
			good++
		}
		any := make([]byte, d.roll(0, 80))
		for i := range any {
			any[i] = byte(d.roll(0, 255))
		}
		against(t, "any bytes", any)
	}
	if good < 200 || good > 3800 {
		t.Errorf("the test's own chunks: %d of 4000 are a network's", good)
	}
}

func TestLongSources(t *testing.T) {
	unwritten(t, "MaxBytes noughts", make([]byte, api.MaxBytes), api.ErrSum)
	unwritten(t, "a nought more", make([]byte, api.MaxBytes+1), api.ErrLong)
	unwritten(t, "many more", make([]byte, 3*api.MaxBytes), api.ErrLong)
	b := sourceOf(t, tiny())
	unwritten(t, "a source and noughts", append(slices.Clone(b), make([]byte, api.MaxBytes-len(b))...), api.ErrTag)
	unwritten(t, "a source and a nought more", append(slices.Clone(b), make([]byte, api.MaxBytes+1-len(b))...), api.ErrLong)
}

// TestRoomBehind: what stands in the room behind a source is none of it.
func TestRoomBehind(t *testing.T) {
	for _, n := range []api.Net{tiny(), edge(), mixed()} {
		b := sourceOf(t, n)
		writes(t, "room behind", append(slices.Clone(b), 1, 2, 3)[:len(b)], fileOf(t, n))
		unwritten(t, "the rest in the room behind", slices.Clone(b)[:len(b)-1:len(b)], api.ErrShort)
	}
}

// TestThereAndBack: the model of what a model means is the same model.
func TestThereAndBack(t *testing.T) {
	d := dice(204)
	list := []api.Net{tiny(), edge(), mixed(), small()}
	for range 40 {
		list = append(list, d.network())
	}
	for _, n := range list {
		b, e := convert.Convert(sourceOf(t, n))
		m, eBack := packed.Decode(b)
		meaning, eMeaning := packed.Meaning(m)
		if _, eNet := net.Check(meaning); e != api.OK || eBack != api.OK || eMeaning != api.OK || eNet != api.OK {
			t.Fatalf("P20.4, P20.6: %d, %d, %d, %d", e, eBack, eMeaning, eNet)
		}
		if again, e := convert.Convert(sourceOf(t, meaning)); e != api.OK || !bytes.Equal(again, b) {
			t.Errorf("P20.6: what a model means has another model: %d", e)
		}
	}
}
