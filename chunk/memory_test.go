package chunk_test

import (
	"bytes"
	"reflect"
	"runtime"
	"slices"
	"sync"
	"testing"

	"heddle/api"
	"heddle/chunk"
)

// room is a list in memory of its own, with three marked elements in the room behind it.
func room[T any](list []T, marked T) []T {
	long := append(slices.Clone(list), marked, marked, marked)
	return slices.Clip(long)[:len(list)]
}

// roomy are chunks in memory of their own, with marked room behind every list.
func roomy(cs []api.Chunk) []api.Chunk {
	cs = room(cs, api.Chunk{Tag: 85, Body: []byte{85}})
	for i := range cs {
		cs[i].Body = room(cs[i].Body, 85)
	}
	return cs
}

// all is a list with the room behind it.
func all[T any](list []T) []T { return list[:cap(list)] }

// over writes v over a list and the room behind it.
func over[T any](list []T, v T) {
	for i := range all(list) {
		all(list)[i] = v
	}
}

// picture is all that chunks hold, their room too.
func picture(cs []api.Chunk) []any {
	seen := []any{len(cs), cap(cs)}
	for _, c := range all(cs) {
		seen = append(seen, c.Tag, len(c.Body), cap(c.Body), slices.Clone(all(c.Body)))
	}
	return seen
}

// lists are the Bodies of chunks that are handed in.
func lists(cs []api.Chunk) [][]byte {
	l := make([][]byte, len(cs))
	for i, c := range cs {
		l[i] = c.Body
	}
	return l
}

// kinds are lists of chunks, some of which Write refuses.
func kinds() map[string][]api.Chunk {
	return map[string][]api.Chunk{
		"none":      {},
		"one":       {of(7, "ab")},
		"empty":     {{Tag: 3}, {Tag: 4}},
		"three":     {of(1, "abc"), {Tag: 2}, of(3, "123456789")},
		"1024":      make([]api.Chunk, 1024),
		"too many":  make([]api.Chunk, 1025),
		"too long":  {{Body: make([]byte, api.MaxBytes)}},
		"MaxBytes":  {{Body: make([]byte, api.MaxBytes-28)}},
		"some more": slices.Repeat([]api.Chunk{of(9, "some")}, 77),
	}
}

func TestArgumentsStay(t *testing.T) {
	for what, cs := range kinds() {
		cs = roomy(cs)
		before := picture(cs)
		chunk.Write(magic, cs...)
		if !reflect.DeepEqual(before, picture(cs)) {
			t.Errorf("P8.6: %s: Write changed what it was given", what)
		}
		l := room(lists(cs), []byte("room"))
		chunk.Sum(l...)
		if !reflect.DeepEqual(before, picture(cs)) || len(all(l)) != len(cs)+3 || string(all(l)[len(cs)]) != "room" {
			t.Errorf("P8.6: %s: Sum changed what it was given", what)
		}
	}
	for what, b := range containers() {
		for _, x := range [][]byte{b, b[:len(b)-1], other(b, len(b)-1, 1), append(slices.Clone(b), 1)} {
			x = room(x, 85)
			before := slices.Clone(all(x))
			chunk.Read(its(b), x)
			chunk.Read(its(b)+1, x)
			chunk.Sum(x, x)
			if !bytes.Equal(before, all(x)) {
				t.Errorf("P8.6: %s: Read or Sum changed what it was given", what)
			}
		}
	}
}

// TestRoomIsNotRead: the bytes in the room behind a list say nothing.
func TestRoomIsNotRead(t *testing.T) {
	for what, b := range containers() {
		for _, i := range spots(len(b)) {
			refused(t, "P8.4: the rest in the room behind "+what, its(b), slices.Clone(b)[:i:len(b)], api.ErrShort)
		}
	}
	cs := roomy([]api.Chunk{of(1, "ab")})
	writes(t, "with room", magic, cs, laid(magic, []api.Chunk{of(1, "ab")}))
}

// TestNothingIsKept: what was handed in may be written over behind a call.
func TestNothingIsKept(t *testing.T) {
	for what, b := range containers() {
		given := room(b, 85)
		cs, e := chunk.Read(its(b), given)
		over(given, 0xEE)
		if want := must(meant(its(b), b)); e != api.OK || !same(cs, want) {
			t.Errorf("P8.6: %s: Read keeps what it was given", what)
		}
		args := roomy(cs)
		made, e := chunk.Write(its(b), args...)
		for _, c := range args {
			over(c.Body, 0xEE)
		}
		over(args, api.Chunk{})
		if e != api.OK || !bytes.Equal(made, b) {
			t.Errorf("P8.6: %s: Write keeps what it was given", what)
		}
	}
}

func TestAnswersAreTheirOwn(t *testing.T) {
	for what, b := range containers() {
		given := slices.Clone(b)
		want := must(meant(its(b), b))
		first, _ := chunk.Read(its(b), given)
		second, _ := chunk.Read(its(b), given)
		for i := range first {
			bodies := lists(first)
			over(first[i].Body, byte(i)^0xEE)
			for k := i + 1; k < len(first); k++ {
				if !bytes.Equal(bodies[k], want[k].Body) {
					t.Errorf("P8.6: %s: the Bodies %d and %d share memory", what, i, k)
				}
			}
		}
		for i := range first {
			if len(first[i].Body) > 0 && slices.ContainsFunc(all(first[i].Body), func(x byte) bool { return x != byte(i)^0xEE }) {
				t.Errorf("P8.6: %s: a later Body is the Body %d too", what, i)
			}
		}
		over(first, api.Chunk{Tag: 99})
		third, e := chunk.Read(its(b), given)
		if !same(second, want) || !same(third, want) || e != api.OK || !bytes.Equal(given, b) {
			t.Errorf("P8.6: %s: an answer of Read that is written over changes another, or what was given", what)
		}
	}
}

func TestContainersAreTheirOwn(t *testing.T) {
	for what, cs := range kinds() {
		cs = roomy(cs)
		before := picture(cs)
		first, _ := chunk.Write(magic, cs...)
		second, e := chunk.Write(magic, cs...)
		keep := slices.Clone(second)
		over(first, 0xEE)
		third, again := chunk.Write(magic, cs...)
		if !bytes.Equal(second, keep) || !bytes.Equal(third, keep) || e != again || !reflect.DeepEqual(before, picture(cs)) {
			t.Errorf("P8.6: %s: an answer of Write that is written over changes another, or what was given", what)
		}
	}
}

func TestNilAndEmpty(t *testing.T) {
	a, _ := chunk.Write(magic, api.Chunk{Tag: 1})
	b, _ := chunk.Write(magic, api.Chunk{Tag: 1, Body: []byte{}})
	c, _ := chunk.Write(magic)
	d, _ := chunk.Write(magic, []api.Chunk{}...)
	if !bytes.Equal(a, b) || !bytes.Equal(c, d) {
		t.Error("P0.4: nil and empty are not the same to Write")
	}
	refused(t, "P0.4: an empty list", magic, []byte{}, api.ErrShort)
}

// TestSharedBodies: one list may be the Body of many chunks.
func TestSharedBodies(t *testing.T) {
	body := []byte("shared bytes")
	cs := []api.Chunk{{Tag: 1, Body: body}, {Tag: 2, Body: body}, {Tag: 3, Body: body[3:7]}}
	b := laid(magic, cs)
	writes(t, "shared", magic, cs, b)
	if s := chunk.Sum(body, body, body); s != quick([]byte("shared bytesshared bytesshared bytes")) {
		t.Errorf("P8.1: of one list three times: %X", s)
	}
}

// taken is the memory that a call takes, in bytes.
func taken(call func()) int {
	least := 1 << 62
	for range 3 { // the runtime may take some of its own meanwhile
		var before, after runtime.MemStats
		runtime.ReadMemStats(&before)
		call()
		runtime.ReadMemStats(&after)
		least = min(least, int(after.TotalAlloc-before.TotalAlloc))
	}
	return least
}

// TestMemory: what bytes tell takes no memory, what is there takes its own and some words a chunk.
func TestMemory(t *testing.T) {
	front := head(magic, 1024)
	long := bytes.Repeat([]byte{0xD1}, 1<<20)
	for _, x := range []struct {
		what string
		b    []byte
		most int
	}{
		{"no bytes", nil, 0},
		{"1024 chunks, none there", front, 0},
		{"2^32 - 1 chunks", head(magic, 1<<32-1), 0},
		{"1024 chunks, one there", append(slices.Clone(front), laid(magic, make([]api.Chunk, 1))[12:]...), 64},
		{"1024 chunks, a long one there", append(slices.Clone(front), laid(magic, []api.Chunk{{Body: long}})[12:]...), len(long) + 64},
		{"a Body of 2^32 - 1 bytes", slices.Concat(head(magic, 1), head(1, 1<<32-1), make([]byte, 20)), 0},
		{"a Body of 2^23 bytes", slices.Concat(head(magic, 1), head(1, 1<<23), make([]byte, 20)), 0},
		{"a long Body with a wrong sum", other(laid(magic, []api.Chunk{{Body: long}}), 24, 1), 0},
		{"a long Body", laid(magic, []api.Chunk{{Body: long}}), len(long) + 64},
		{"1024 chunks", laid(magic, make([]api.Chunk, 1024)), 1024 * 256},
		{"MaxBytes bytes", laid(magic, []api.Chunk{{Body: make([]byte, api.MaxBytes-28)}}), api.MaxBytes + 8192},
		{"too many bytes", make([]byte, api.MaxBytes+1), 0},
	} {
		if n := taken(func() { chunk.Read(magic, x.b) }); n > x.most+slack {
			t.Errorf("P8.6: %s: Read takes %d bytes", x.what, n)
		}
	}
}

// slack is what the runtime may take beside a call.
const slack = 1024

func TestManyAtATime(t *testing.T) {
	cs := roomy([]api.Chunk{of(1, "abc"), {Tag: 2}, of(3, "123456789")})
	b := room(laid(magic, cs), 85)
	var group sync.WaitGroup
	for range 8 {
		group.Go(func() {
			for range 200 {
				made, e := chunk.Write(magic, cs...)
				got, f := chunk.Read(magic, b)
				if e != api.OK || f != api.OK || !bytes.Equal(made, b) || !same(got, cs) || chunk.Sum(b) != quick(b) {
					t.Error("P0.5: calls at one time answer otherwise")
				}
			}
		})
	}
	group.Wait()
}
