package packed

import (
	"slices"

	"heddle/api"
	"heddle/fold"
)

// meant is the layer of a network that a packed layer is of.
func meant(p api.Pack, s spot) api.Layer {
	return api.Layer{
		Kind: p.Kind, Weight: p.Weight, K: p.K, Win: p.Win, Border: p.Border,
		Weights: unpacked(p, layOf(p, s.in)),
		Norms:   norms(p.Threshes),
		// Clone would tell a list that is empty from one that is nil.
		Biases: append([]int64(nil), p.Biases...),
	}
}

// unpacked is a layer's weights in the order of their numbers, without the gaps of the rows.
func unpacked(p api.Pack, l lay) []int8 {
	list := slices.Grow([]int8(nil), p.K*l.weights())
	for _, r := range p.Rows {
		for words := range l.cut(r) {
			for c := range l.channels {
				list = append(list, words.at(c))
			}
		}
	}
	return list
}

// norms is a norm for each threshold, all of which must be such as may be.
func norms(list []api.Thresh) []api.Norm {
	var all []api.Norm
	for _, t := range list {
		n, _ := fold.Norm(t)
		all = append(all, n)
	}
	return all
}
