package bound

import (
	"math/bits"

	"heddle/api"
)

// tally is how many weights are 1 and how many are -1: all that a sum's reach hangs on.
type tally struct{ plus, minus int64 }

// ofRow is the tally of a row that may be. As Sign is 0 where Some is, Some has just the minuses beside the pluses.
func ofRow(r api.Row) tally {
	plus := ones(r.Sign.Words)
	return tally{plus: plus, minus: ones(r.Some.Words) - plus}
}

func ones(words []uint64) int64 {
	count := 0
	for _, w := range words {
		count += bits.OnesCount64(w)
	}
	return int64(count)
}

// ofWeights is the tally of weights that are not packed.
func ofWeights(weights []int8) tally {
	var t tally
	for _, w := range weights {
		switch w {
		case 1:
			t.plus++
		case -1:
			t.minus++
		}
	}
	return t
}

// times is the reach of the sum, each weight times a number of x. With at most 2^24 weights, and an x that may be, it stays far within int64.
func (t tally) times(x api.Reach) api.Reach {
	return api.Reach{Lo: t.plus*x.Lo - t.minus*x.Hi, Hi: t.plus*x.Hi - t.minus*x.Lo}
}
