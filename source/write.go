package source

import (
	"slices"

	"heddle/api"
	"heddle/chunk"
	"heddle/net"
)

// pairs is the two bits of the weights -1, 0 and 1.
var pairs = [3]byte{2, 0, 1}

// writer gathers the chunks of a source. Behind its first fault, which stands in a field, it writes nothing more.
type writer struct {
	chunks []api.Chunk
	body   []byte // of the chunk that is being written
	fault  api.Errno
}

// check: all that is written behind it relies on a network that may be.
func (w *writer) check(n api.Net) { _, w.fault = net.Check(n) }

func (w *writer) network(n api.Net) {
	if w.fault != api.OK {
		return
	}
	w.head(n)
	table := kinds()
	for _, l := range n.Layers {
		w.layer(table, l)
	}
}

func (w *writer) head(n api.Net) {
	put[uint8](w, len(n.Name))
	w.add([]byte(n.Name)...)
	put[uint16](w, n.In.H, n.In.W, n.In.C)
	put[uint8](w, len(n.Layers))
	w.end(headTag)
}

func (w *writer) layer(table []kind, l api.Layer) {
	at := slices.IndexFunc(table, func(k kind) bool { return k.number == l.Kind })
	for _, p := range table[at].parts {
		p.write(w, l)
	}
	w.end(table[at].tag)
}

// add writes bytes as they are.
func (w *writer) add(b ...byte) { w.body = append(w.body, b...) }

// end makes a chunk of what was written behind the last one.
func (w *writer) end(tag uint32) {
	w.chunks = append(w.chunks, api.Chunk{Tag: tag, Body: w.body})
	w.body = nil
}

// container is the source, or the first fault.
func (w *writer) container() ([]byte, api.Errno) {
	if w.fault != api.OK {
		return nil, w.fault
	}
	return chunk.Write(magic, w.chunks...)
}

func (w *writer) window(v api.Window) {
	put[uint8](w, v.R, v.S, v.StepY, v.StepX, v.Top, v.Left, v.Bottom, v.Right)
}

func (w *writer) weights(list []int8) {
	packed := make([]byte, (len(list)+3)/4)
	for i, v := range list {
		packed[i/4] |= pairs[v+1] << (2 * (i % 4))
	}
	w.add(packed...)
}

func (w *writer) norms(list []api.Norm) {
	for _, n := range list {
		w.fractions(n.G, n.B, n.M, n.S)
	}
}

func (w *writer) fractions(list ...api.Frac) {
	for _, f := range list {
		put[int32](w, f.Num)
		put[uint32](w, f.Den)
	}
}

func (w *writer) biases(list []int64) { put[int32](w, list...) }
