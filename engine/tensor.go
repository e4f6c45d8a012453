package engine

import (
	"heddle/api"
	"heddle/cube"
	"heddle/dot"
)

// tensor is what comes into a layer or out of it. All that lies between two layers is a cube, whose words are in the arena; the network's input are numbers, and its logits sums, which have a Shape and no Words.
type tensor struct {
	api.Cube
	numbers []int8
	logits  []int64
}

// input is a network's input, each byte read as a number with a sign.
func input(s api.Shape, x []byte) tensor {
	numbers := make([]int8, len(x))
	for i, b := range x {
		numbers[i] = int8(b)
	}
	return tensor{Cube: api.Cube{Shape: s}, numbers: numbers}
}

// isInput tells whether these are numbers; an input has one at least.
func (t tensor) isInput() bool { return len(t.numbers) > 0 }

// weigher makes the sum of a row of weights with all elements, which are cut into rows of bits once for all rows.
func (t tensor) weigher() func(r api.Row) int64 {
	// Neither the tensor nor a row of its length is refused.
	if t.isInput() {
		planes, _ := dot.Planes(t.numbers...)
		return func(r api.Row) int64 {
			sum, _ := dot.Numbers(r, planes)
			return sum
		}
	}
	flat, _ := cube.Flat(t.Cube)
	return func(r api.Row) int64 {
		sum, _ := dot.Signs(r, flat)
		return sum
	}
}

// step is what a trace tells of a layer's output, in memory of its own.
func (t tensor) step() api.Step {
	if len(t.logits) > 0 {
		return api.Step{Shape: t.Shape, Values: t.logits}
	}
	signs, _ := cube.Unpack(t.Cube)
	values := make([]int64, len(signs))
	for i, sign := range signs {
		values[i] = int64(sign)
	}
	return api.Step{Shape: t.Shape, Values: values}
}
