package engine

import (
	"slices"

	"heddle/api"
	"heddle/conv"
	"heddle/fold"
	"heddle/pool"
)

// layer is a layer that is ready to run. Its output, if that is a cube, is laid into room, which has just as many words, of whatever bits.
type layer interface {
	run(in tensor, room []uint64) tensor
}

// layerOf is a layer of a model that may be, with the shape of its output and the number of its way in the plan.
func layerOf(p api.Pack, out api.Shape, number int) layer {
	switch p.Kind {
	case api.LConv:
		return convolution{weighted: weighted{p, out}, way: wayOf(number)}
	case api.LPool:
		return pooling{win: p.Win}
	}
	return dense{weighted{p, out}}
}

// way tells a convolution's sums over a cube.
type way func(c api.Cube, w api.Window, border int, rows []api.Row) ([]int64, api.Shape, api.Errno)

// wayOf is the way of a convolution that has that number in a plan.
func wayOf(number int) way {
	ways := [...]way{api.WayDirect: conv.Direct, api.WayPatch: conv.Patch, api.WayBlock: conv.Block}
	return ways[number]
}

// convolution is an LConv.
type convolution struct {
	weighted
	way way
}

func (l convolution) run(in tensor, room []uint64) tensor {
	return l.become(l.sums(in), room)
}

// sums are those of all places. None of the calls is refused, as the layer may stand behind what comes in.
func (l convolution) sums(in tensor) []int64 {
	if in.isInput() {
		sums, _, _ := conv.Numbers(in.Shape, in.numbers, l.Win, l.Border, l.Rows)
		return sums
	}
	sums, _, _ := l.way(in.Cube, l.Win, l.Border, l.Rows)
	return sums
}

// dense is an LDense.
type dense struct {
	weighted
}

func (l dense) run(in tensor, room []uint64) tensor {
	weigh := in.weigher()
	sums := make([]int64, l.K)
	for k, row := range l.Rows {
		sums[k] = weigh(row)
	}
	return l.become(sums, room)
}

// pooling is an LPool.
type pooling struct {
	win api.Window
}

func (l pooling) run(in tensor, room []uint64) tensor {
	out, _ := pool.Max(in.Cube, l.win)
	copy(room, out.Words)
	return tensor{Cube: api.Cube{Shape: out.Shape, Words: room}}
}

// weighted is what an LConv and an LDense have in common: what is done with their sums.
type weighted struct {
	api.Pack
	out api.Shape
}

// become is what the sums become: logits, if the layer is the last one, which alone has biases; else pluses and minuses.
func (l weighted) become(sums []int64, room []uint64) tensor {
	if len(l.Biases) == 0 {
		l.lay(sums, room)
		return tensor{Cube: api.Cube{Shape: l.out, Words: room}}
	}
	for k, bias := range l.Biases {
		sums[k] += bias
	}
	return tensor{Cube: api.Cube{Shape: l.out}, logits: sums}
}

// lay sets a bit for each sum that becomes plus, place by place.
func (l weighted) lay(sums []int64, room []uint64) {
	// What lies there is of the layers ahead, or of another run.
	clear(room)
	wide := (l.K + 63) / 64
	for place := range slices.Chunk(sums, l.K) {
		for k, sum := range place {
			if fold.Plus(l.Threshes[k], sum) {
				room[k/64] |= 1 << (k % 64)
			}
		}
		room = room[wide:]
	}
}
