package slim

import (
	"slices"

	"heddle/api"
	"heddle/frac"
)

// draft is a network on its way to a smaller one, in memory of its own, and the reaches of its sums. A step changes these in two layers alone; to ask bound.Net behind each would be to go through all weights again.
type draft struct {
	net     api.Net
	reaches [][]api.Reach // of the last layer as they were: nothing hangs on them
}

// step is what goes from a layer, and what that means to each output of the layer behind it.
type step struct {
	layer int
	gone  []int8  // for each output of the layer: its value, if it goes, or 0
	worth []int64 // what the weights that go add to the sum
	lost  []int64 // how many of them are not nothing
}

// stepAt is the step at the layer i, if there is one.
func (d draft) stepAt(i int) (step, bool) {
	layers := d.net.Layers
	if i+1 == len(layers) || layers[i+1].Kind != api.LDense {
		return step{}, false
	}
	gone := going(values(layers[i], d.reaches[i]))
	if !slices.ContainsFunc(gone, func(v int8) bool { return v != 0 }) {
		return step{}, false
	}
	s := step{layer: i, gone: gone}
	s.worth, s.lost = weigh(layers[i+1], gone)
	return s, s.fits(layers[i+1])
}

// going is which outputs go: the dead ones, but for the first one where all are dead, as a layer must have an output.
func going(values []int8) []int8 {
	if !slices.Contains(values, 0) {
		values[0] = 0
	}
	return values
}

// weigh tells what the weights for the elements that go are worth, and how many are lost. The channels of a place lie together: so in a row of weights the outputs of the layer ahead come round, place by place.
func weigh(behind api.Layer, gone []int8) (worth, lost []int64) {
	worth, lost = make([]int64, behind.K), make([]int64, behind.K)
	row := len(behind.Weights) / behind.K
	for j := range behind.K {
		for i, w := range behind.Weights[j*row : (j+1)*row] {
			v := gone[i%len(gone)]
			worth[j] += int64(w * v)
			lost[j] += int64(w * v * w * v)
		}
	}
	return worth, lost
}

// fits tells whether all norms behind can take the worth up. Biases always can: what goes leaves them as much room.
func (s step) fits(behind api.Layer) bool {
	for j, norm := range behind.Norms {
		if frac.Check(less(norm.M, s.worth[j])) != api.OK {
			return false
		}
	}
	return true
}

// take takes the step.
func (d draft) take(s step) {
	here, behind := &d.net.Layers[s.layer], &d.net.Layers[s.layer+1]
	outputs, row := len(s.gone), len(here.Weights)/len(s.gone)
	stays := func(k int) bool { return s.gone[k] == 0 }

	here.Weights = keep(here.Weights, func(i int) bool { return stays(i / row) })
	here.Norms = keep(here.Norms, stays)
	here.K = len(here.Norms)
	d.reaches[s.layer] = keep(d.reaches[s.layer], stays)

	// A row has whole places, so the outputs come round from row to row too.
	behind.Weights = keep(behind.Weights, func(i int) bool { return stays(i % outputs) })
	for j := range behind.Norms {
		behind.Norms[j].M = less(behind.Norms[j].M, s.worth[j])
		// What comes in to a layer behind another is from -1 to 1: each weight took one at both ends.
		d.reaches[s.layer+1][j].Lo += s.lost[j]
		d.reaches[s.layer+1][j].Hi -= s.lost[j]
	}
	for j := range behind.Biases {
		behind.Biases[j] += s.worth[j]
	}
}

// keep is a new list of those elements of which stays says so, by their numbers.
func keep[T any](list []T, stays func(i int) bool) []T {
	var kept []T
	for i, v := range list {
		if stays(i) {
			kept = append(kept, v)
		}
	}
	return kept
}
