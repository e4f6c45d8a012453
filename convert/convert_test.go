package convert_test

import (
	"bytes"
	"testing"

	"heddle/api"
	"heddle/chunk"
	"heddle/convert"
	"heddle/packed"
	"heddle/source"
	"heddle/text"
)

func TestExamplesOfTheDocument(t *testing.T) {
	becomes(t, "tiny", tiny(), tinyModel())
	becomes(t, "edge", edge(), edgeModel())
	unpacked(t, "the zero network", api.Net{}, -1, api.ErrName)
	_, e := source.Decode(nil)
	unwritten(t, "no bytes", nil, e)
	unwritten(t, "no bytes", []byte{}, api.ErrShort)
	_, line, e := text.Parse("nothing")
	unread(t, "nothing", "nothing", line, e)
	unread(t, "nothing", "nothing", 1, api.ErrWord)
	for s, n := range map[string]api.Net{tinyText: tiny(), edgeText: edge()} {
		b, e := convert.Convert(sourceOf(t, n))
		if e != api.OK || len(b) == 0 {
			t.Errorf("P20.2: %s: %d bytes, %d", n.Name, len(b), e)
		}
		reads(t, n.Name, s, b)
	}
}

// TestFilesOfTheDocument: tiny's bytes as doc/19 and doc/09 write them out.
func TestFilesOfTheDocument(t *testing.T) {
	src := hexed("68737263020000000dc7dd89010000000c0000004f605ee30474696e79010001000300019d8f32d2030000000d0000005700c719020200610505000000fbffffff87fe98ee")
	want, e := chunk.Write(0x706c6468,
		api.Chunk{Tag: 1, Body: hexed("04 74 69 6e 79 0100 0100 0300 01")}, api.Chunk{Tag: 2, Body: hexed("02 02 0200 00 00 00 00 00 00 00 00 00")},
		api.Chunk{Tag: 3, Body: hexed("d3 0f")}, api.Chunk{Tag: 5, Body: hexed("05 00000000000000 fb ffffffffffffff")})
	if e != api.OK {
		t.Fatal(e)
	}
	writes(t, "tiny", src, want)
	reads(t, "tiny", tinyText, want)
}

// TestWrittenOut: a network with all that there is, whose model and bytes were worked out by hand.
func TestWrittenOut(t *testing.T) {
	becomes(t, "mixed", mixed(), mixedModel())
	alike(t, "mixed", mixed())
	want, e := chunk.Write(0x706c6468,
		api.Chunk{Tag: 1, Body: hexed("08 4d697865645f2d39 0400 0300 0200 05")},
		api.Chunk{Tag: 2, Body: hexed("01 02 0200 02 03 02 01 01 00 02 03 ff")},
		api.Chunk{Tag: 3, Body: hexed("53 40 7f 0d 31 5c")},
		api.Chunk{Tag: 4, Body: hexed("01 ffffffffffffffff 02 2c01000000000000")},
		api.Chunk{Tag: 2, Body: hexed("03 00 0000 02 01 01 03 00 00 00 00 00")},
		api.Chunk{Tag: 2, Body: hexed("02 01 0300 00 00 00 00 00 00 00 00 00")},
		api.Chunk{Tag: 3, Body: hexed("5f 77 77 ff 7d 55")},
		api.Chunk{Tag: 4, Body: hexed("04 0000000000000000 03 0000000000000000 02 01000080ffffffff")},
		api.Chunk{Tag: 2, Body: hexed("01 01 0200 01 01 01 01 01 00 00 02 01")},
		api.Chunk{Tag: 3, Body: hexed("f7 07")},
		api.Chunk{Tag: 4, Body: hexed("01 ffffff7f00000000 01 02000080ffffffff")},
		api.Chunk{Tag: 2, Body: hexed("02 02 0200 00 00 00 00 00 00 00 00 00")},
		api.Chunk{Tag: 3, Body: hexed("34 4d d3 00 00 00")},
		api.Chunk{Tag: 5, Body: hexed("0d000080ffffffff f3ffff7f00000000")})
	if e != api.OK {
		t.Fatal(e)
	}
	if b, e := packed.Encode(mixedModel()); e != api.OK || !bytes.Equal(b, want) {
		t.Errorf("P19.2: the test's own bytes: %d, %x", e, b)
	}
	writes(t, "mixed", sourceOf(t, mixed()), want)
	s, _ := text.Print(mixed())
	reads(t, "mixed", s, want)
}

// TestExamplesOfTheEngine: doc/22's changes of its two networks.
func TestExamplesOfTheEngine(t *testing.T) {
	for _, biases := range [][]int64{{0, 3}, {0, -2}} {
		n, want := tiny(), tinyModel()
		n.Layers[0].Biases, want.Packs[0].Biases = biases, biases
		becomes(t, "tiny with other biases", n, want)
	}
	for border := -1; border <= 1; border++ {
		n, want := edge(), edgeModel()
		n.Layers[0].Border, want.Packs[0].Border = border, border
		becomes(t, "edge with another border", n, want)
	}
	n, want := edge(), edgeModel()
	w := win(2, 2, 1, 1, 0, 0, 0, 0)
	n.Layers[1].Weights = []int8{1, -1}
	n.Layers = []api.Layer{n.Layers[0], pool(w), n.Layers[1]}
	want.Packs[1].Rows = []api.Row{row(1, []uint64{1}, []uint64{1}), row(1, []uint64{0}, []uint64{1})}
	want.Packs = []api.Pack{want.Packs[0], {Kind: api.LPool, Win: w}, want.Packs[1]}
	becomes(t, "edge with an LPool", n, want)
}
