package source

import (
	"slices"

	"heddle/api"
	"heddle/chunk"
	"heddle/net"
	"heddle/shape"
)

// signs is the weight of each two bits but the last, 3, which are no weight.
var signs = [3]int8{0, 1, -1}

const (
	normSize = 32
	biasSize = 4
)

// reader takes chunks, and bytes of the last one taken, from the front. Behind its first fault, which stands in a field, it takes nothing more.
type reader struct {
	chunks []api.Chunk
	left   []byte
	in     api.Shape // of what comes into the layer that is being read
	fault  api.Errno
}

// open: chunk.Read tells first of all, as Decode must, whether there are too many bytes.
func (r *reader) open(b []byte) { r.chunks, r.fault = chunk.Read(magic, b) }

// refuse notes that the chunks are not a network's, unless a fault was found ahead.
func (r *reader) refuse(wrong bool) {
	if wrong && r.fault == api.OK {
		r.fault = api.ErrSource
	}
}

// next goes on to the next chunk, and is its Tag; 0, which is none, behind a fault.
func (r *reader) next() uint32 {
	r.refuse(len(r.chunks) == 0)
	if r.fault != api.OK {
		return 0
	}
	c := r.chunks[0]
	r.chunks, r.left = r.chunks[1:], c.Body
	return c.Tag
}

// last tells whether no chunk stands behind the one that is being read.
func (r *reader) last() bool { return len(r.chunks) == 0 }

// take is the next bytes of the chunk; none behind a fault.
func (r *reader) take(n int) []byte {
	r.refuse(n > len(r.left))
	if r.fault != api.OK {
		return nil
	}
	b := r.left[:n]
	r.left = r.left[n:]
	return b
}

// end: nothing of the chunk may be left.
func (r *reader) end() { r.refuse(len(r.left) > 0) }

// head is all of the network but its layers.
func (r *reader) head() api.Net {
	var n api.Net
	var name, layers int
	r.refuse(r.next() != headTag)
	get[uint8](r, &name)
	n.Name = string(r.take(name))
	get[uint16](r, &n.In.H, &n.In.W, &n.In.C)
	get[uint8](r, &layers)
	r.end()
	r.refuse(layers != len(r.chunks))
	// Products of sides stay in their range only where the sides do.
	r.refuse(shape.Check(n.In) != api.OK)
	r.in = n.In
	return n
}

func (r *reader) layers() []api.Layer {
	var list []api.Layer
	table := kinds()
	for r.fault == api.OK && len(r.chunks) > 0 {
		list = append(list, r.layer(table))
	}
	return list
}

func (r *reader) layer(table []kind) api.Layer {
	tag := r.next()
	at := slices.IndexFunc(table, func(k kind) bool { return k.tag == tag })
	if at < 0 {
		r.refuse(true)
		return api.Layer{}
	}
	l := api.Layer{Kind: table[at].number}
	for _, p := range table[at].parts {
		p.read(r, &l)
	}
	r.end()
	out, e := table[at].out(r.in, l)
	r.refuse(e != api.OK)
	r.in = out
	return l
}

// check: whether the network may be. What a fault was found in is no network.
func (r *reader) check(n api.Net) {
	if r.fault == api.OK {
		_, e := net.Check(n)
		r.refuse(e != api.OK)
	}
}

func (r *reader) window() api.Window {
	var v api.Window
	get[uint8](r, &v.R, &v.S, &v.StepY, &v.StepX, &v.Top, &v.Left, &v.Bottom, &v.Right)
	return v
}

func (r *reader) weights(count int) []int8 {
	packed := r.take((count + 3) / 4)
	if r.fault != api.OK {
		return nil
	}
	list := make([]int8, count)
	for i := range list {
		pair := packed[i/4] >> (2 * (i % 4)) & 3
		if pair == 3 {
			r.refuse(true)
			return nil
		}
		list[i] = signs[pair]
	}
	r.refuse(count%4 != 0 && packed[count/4]>>(2*(count%4)) != 0)
	return list
}

// room is a list of n things, if their bytes are there: what is told alone is not to cost memory.
func room[T any](r *reader, n, bytes int) []T {
	r.refuse(n*bytes > len(r.left))
	if r.fault != api.OK {
		return nil
	}
	return make([]T, n)
}

func (r *reader) norms(n int) []api.Norm {
	list := room[api.Norm](r, n, normSize)
	for i := range list {
		v := &list[i]
		r.fractions(&v.G, &v.B, &v.M, &v.S)
	}
	return list
}

func (r *reader) fractions(places ...*api.Frac) {
	for _, f := range places {
		get[int32](r, &f.Num)
		get[uint32](r, &f.Den)
	}
}

func (r *reader) biases(n int) []int64 {
	list := room[int64](r, n, biasSize)
	for i := range list {
		get[int32](r, &list[i])
	}
	return list
}
