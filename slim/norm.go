package slim

import (
	"heddle/api"
	"heddle/fold"
	"heddle/frac"
)

// reduce puts a norm that may be in its least numbers.
func reduce(n *api.Norm) {
	for _, f := range [4]*api.Frac{&n.G, &n.B, &n.M, &n.S} {
		*f, _ = frac.Reduce(*f)
	}
}

// values tells, for each output of a layer of a network that may be, the value that it always has, 1 or -1, or 0 if it is not dead.
func values(l api.Layer, reaches []api.Reach) []int8 {
	list := make([]int8, len(reaches))
	// An LPool and the last layer have no norms, and nothing of theirs is dead.
	for k, norm := range l.Norms {
		list[k] = value(norm, reaches[k])
	}
	return list
}

// value asks the two ends alone: what a threshold makes plus is a half of the numbers, all or none.
func value(norm api.Norm, r api.Reach) int8 {
	t, _ := fold.Fold(norm)
	low, high := fold.Plus(t, r.Lo), fold.Plus(t, r.Hi)
	switch {
	case low && high:
		return 1
	case !low && !high:
		return -1
	}
	return 0
}

// less is a fraction less a whole number. It keeps the denominator, and with it the least numbers.
func less(f api.Frac, n int64) api.Frac { return api.Frac{Num: f.Num - n*f.Den, Den: f.Den} }
