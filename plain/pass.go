package plain

import (
	"heddle/api"
	"heddle/frac"
)

// tensor is what lies between two layers: a shape, and its elements in the order of their numbers.
type tensor struct {
	shape  api.Shape
	values []int64
}

// work is what a kind of layer makes of what comes in: the values of its output, whose shape is known.
type work func(l api.Layer, in tensor, out api.Shape) []int64

// works is the work of each kind.
func works() map[int]work {
	return map[int]work{
		api.LConv:  convolve,
		api.LDense: connect,
		api.LPool:  pool,
	}
}

// pass runs a network that may be; done is told each layer's output, in order.
func pass(n api.Net, x []byte, shapes []api.Shape, done func(out tensor)) {
	table := works()
	in := tensor{shape: n.In, values: signed(x)}
	for i, l := range n.Layers {
		out := tensor{shape: shapes[i], values: table[l.Kind](l, in, shapes[i])}
		done(out)
		in = out
	}
}

// signed reads bytes as numbers with a sign.
func signed(x []byte) []int64 {
	values := make([]int64, len(x))
	for i, b := range x {
		values[i] = int64(int8(b))
	}
	return values
}

// convolve is the work of an LConv.
func convolve(l api.Layer, in tensor, out api.Shape) []int64 {
	values := room(out)
	slide(l, in, out, func(seen []int64) { values = weigh(values, l, seen) })
	return values
}

// connect is the work of an LDense: all of its outputs see all that comes in.
func connect(l api.Layer, in tensor, out api.Shape) []int64 {
	return weigh(room(out), l, in.values)
}

// pool is the work of an LPool.
func pool(l api.Layer, in tensor, out api.Shape) []int64 {
	values := room(out)
	slide(l, in, out, func(seen []int64) {
		for c := range out.C {
			values = append(values, highest(seen, c, out.C))
		}
	})
	return values
}

// room is where the elements of an output are laid one behind the other.
func room(out api.Shape) []int64 { return make([]int64, 0, elems(out)) }

// weigh lays behind values what each output of a layer makes of the elements that it sees.
func weigh(values []int64, l api.Layer, seen []int64) []int64 {
	fanIn := len(seen)
	for k := range l.K {
		values = append(values, become(l, k, sum(l.Weights[k*fanIn:(k+1)*fanIn], seen)))
	}
	return values
}

// sum is that of all weights times their elements.
func sum(weights []int8, seen []int64) int64 {
	total := int64(0)
	for i, w := range weights {
		total += int64(w) * seen[i]
	}
	return total
}

// become is what the sum x of the output k becomes: a logit, if the layer has biases, else 1 or -1.
func become(l api.Layer, k int, x int64) int64 {
	if len(l.Biases) > 0 {
		return x + l.Biases[k]
	}
	// Of a network that may be every norm may be too, and no sum leaves its range.
	if plus, _ := frac.Plus(l.Norms[k], x); plus {
		return 1
	}
	return -1
}

// highest is the greatest element of the channel c at all places that are seen.
func highest(seen []int64, c, channels int) int64 {
	most := seen[c]
	for i := c + channels; i < len(seen); i += channels {
		most = max(most, seen[i])
	}
	return most
}
