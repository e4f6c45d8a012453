package bound

import "heddle/api"

// coming is what is known of what comes in to a layer.
type coming struct {
	reach    api.Reach
	channels int
}

// work is what a kind of layer makes of what comes in: the reach of each output.
type work func(l api.Layer, in coming) []api.Reach

// works is the work of each kind.
func works() map[int]work {
	return map[int]work{
		api.LConv:  weigh,
		api.LDense: weigh,
		api.LPool:  pool,
	}
}

// signs is the reach of what lies between two layers.
func signs() api.Reach { return api.Reach{Lo: -1, Hi: 1} }

// weigh is the work of a layer with weights, of a network that may be: so there are outputs, with as many weights each, and no sum is beyond MaxSum.
func weigh(l api.Layer, in coming) []api.Reach {
	fanIn := len(l.Weights) / l.K
	list := make([]api.Reach, l.K)
	for k := range list {
		list[k] = ofWeights(l.Weights[k*fanIn : (k+1)*fanIn]).times(in.reach)
	}
	// The last layer alone has biases.
	for k, b := range l.Biases {
		list[k].Lo += b
		list[k].Hi += b
	}
	return list
}

// pool is the work of an LPool: it picks from what comes in, channel by channel.
func pool(l api.Layer, in coming) []api.Reach {
	list := make([]api.Reach, in.channels)
	for c := range list {
		list[c] = signs()
	}
	return list
}
