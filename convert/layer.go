package convert

import (
	"slices"

	"heddle/api"
	"heddle/dot"
	"heddle/fold"
	"heddle/patch"
)

// kinds is what becomes of a layer, by its kind; the layer must be one of a network that may be.
func kinds() map[int]func(l api.Layer) api.Pack {
	return map[int]func(l api.Layer) api.Pack{
		api.LConv:  convolution,
		api.LDense: dense,
		api.LPool:  numbers,
	}
}

// numbers is a packed layer without lists: of a pool there are none.
func numbers(l api.Layer) api.Pack {
	return api.Pack{Kind: l.Kind, Weight: l.Weight, K: l.K, Win: l.Win, Border: l.Border}
}

func convolution(l api.Layer) api.Pack {
	// As all its weights are there, their number tells how many channels come in.
	channels := len(l.Weights) / (l.K * l.Win.R * l.Win.S)
	return weighted(l, func(w ...int8) (api.Row, api.Errno) { return patch.Spread(channels, w...) })
}

func dense(l api.Layer) api.Pack { return weighted(l, dot.Pack) }

// weighted is a packed layer with a row for each output's weights, made by pack.
func weighted(l api.Layer, pack func(w ...int8) (api.Row, api.Errno)) api.Pack {
	p := numbers(l)
	fanIn := len(l.Weights) / l.K
	for w := range slices.Chunk(l.Weights, fanIn) {
		// Weights that may be, and so few, are never refused.
		row, _ := pack(w...)
		p.Rows = append(p.Rows, row)
	}
	p.Threshes = folded(l.Norms)
	p.Biases = append(p.Biases, l.Biases...)
	return p
}

// folded is a threshold for each norm, all of which must be such as may be.
func folded(norms []api.Norm) []api.Thresh {
	var list []api.Thresh
	for _, n := range norms {
		t, _ := fold.Fold(n)
		list = append(list, t)
	}
	return list
}
