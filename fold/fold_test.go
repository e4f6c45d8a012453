package fold_test

import (
	"math"
	"testing"

	"heddle/api"
	"heddle/fold"
)

const (
	most   = 2147483647 // the greatest sum
	maxDen = 1048576
)

var (
	plus  = api.Thresh{Mode: api.ModePlus}
	minus = api.Thresh{Mode: api.ModeMinus}
)

func ge(t int64) api.Thresh { return api.Thresh{Mode: api.ModeGE, T: t} }

func le(t int64) api.Thresh { return api.Thresh{Mode: api.ModeLE, T: t} }

func of(num, den int64) api.Frac { return api.Frac{Num: num, Den: den} }

func whole(n int64) api.Frac { return of(n, 1) }

func norm(g, b, m, s api.Frac) api.Norm { return api.Norm{G: g, B: b, M: m, S: s} }

// edges are numbers at and beside the ends of the sums and of int64, about 0, and such as look like a sum or like 0 in 32 bits.
var edges = []int64{
	math.MinInt64, math.MinInt64 + 1, -1<<62 - 1, -1 << 32, -1<<32 - 1, -most - 2, -most - 1, -most, 1 - most, 2 - most,
	-65536, -100, -4, -3, -2, -1, 0, 1, 2, 3, 4, 100, 65536,
	most - 2, most - 1, most, most + 1, most + 2, 1 << 32, 1<<32 + 1, 1<<62 + 1, math.MaxInt64 - 1, math.MaxInt64,
}

// strangers are numbers that are no Mode; some look like one in fewer bits, or without their sign.
var strangers = []int{0, 5, 6, 9, -1, -2, -3, -4, 255, 257, 258, 259, 260, 1<<16 + 2, 1<<32 + 1, 1<<32 + 3, 1<<62 + 3, math.MinInt, math.MinInt + 1, math.MinInt + 3, math.MaxInt, math.MaxInt - 1}

// threshes are all Modes, and numbers that are none, with each of the edges as T.
func threshes() []api.Thresh {
	var list []api.Thresh
	for _, mode := range append([]int{1, 2, 3, 4}, strangers...) {
		for _, t := range edges {
			list = append(list, api.Thresh{Mode: mode, T: t})
		}
	}
	return list
}

// fault is what the document says of a threshold.
func fault(t api.Thresh) api.Errno {
	may := false
	switch t.Mode {
	case 1:
		may = t.T > -2147483647 && t.T <= 2147483647
	case 2:
		may = t.T >= -2147483647 && t.T < 2147483647
	case 3, 4:
		may = t.T == 0
	}
	if !may {
		return api.ErrThresh
	}
	return api.OK
}

// becomesPlus is what the document says of a threshold and a sum.
func becomesPlus(t api.Thresh, x int64) bool {
	switch t.Mode {
	case 1:
		return !(x < t.T)
	case 2:
		return !(x > t.T)
	}
	return t.Mode == 3
}

// goodThreshes are those of threshes that may be.
func goodThreshes() []api.Thresh {
	var list []api.Thresh
	for _, t := range threshes() {
		if fault(t) == api.OK {
			list = append(list, t)
		}
	}
	return list
}

// badThreshes are those of threshes that may not be.
func badThreshes() []api.Thresh {
	var list []api.Thresh
	for _, t := range threshes() {
		if fault(t) != api.OK {
			list = append(list, t)
		}
	}
	return list
}

func TestCheck(t *testing.T) {
	for _, h := range threshes() {
		if e := fold.Check(h); e != fault(h) {
			t.Errorf("P16.1: Check(%v) = %d, want %d", h, e, fault(h))
		}
	}
}

func TestCheckAtItsEnds(t *testing.T) {
	for _, c := range []struct {
		h api.Thresh
		e api.Errno
	}{
		{ge(-most - 1), api.ErrThresh}, {ge(-most), api.ErrThresh}, {ge(1 - most), api.OK}, {ge(0), api.OK}, {ge(most - 1), api.OK}, {ge(most), api.OK}, {ge(most + 1), api.ErrThresh},
		{le(-most - 1), api.ErrThresh}, {le(-most), api.OK}, {le(1 - most), api.OK}, {le(0), api.OK}, {le(most - 1), api.OK}, {le(most), api.ErrThresh}, {le(most + 1), api.ErrThresh},
		{ge(math.MinInt64), api.ErrThresh}, {ge(math.MaxInt64), api.ErrThresh}, {le(math.MinInt64), api.ErrThresh}, {le(math.MaxInt64), api.ErrThresh},
		{plus, api.OK}, {minus, api.OK}, {api.Thresh{Mode: 3, T: 1}, api.ErrThresh}, {api.Thresh{Mode: 3, T: -1}, api.ErrThresh}, {api.Thresh{Mode: 4, T: 1}, api.ErrThresh}, {api.Thresh{Mode: 4, T: -1}, api.ErrThresh},
		{api.Thresh{}, api.ErrThresh}, {api.Thresh{T: 1}, api.ErrThresh}, {api.Thresh{Mode: 5}, api.ErrThresh}, {api.Thresh{Mode: -1}, api.ErrThresh}, {api.Thresh{Mode: 5, T: 1}, api.ErrThresh},
	} {
		if e := fold.Check(c.h); e != c.e {
			t.Errorf("P16.1: Check(%v) = %d, want %d", c.h, e, c.e)
		}
	}
}

func TestPlus(t *testing.T) {
	for _, h := range threshes() {
		for _, x := range edges {
			if p := fold.Plus(h, x); p != becomesPlus(h, x) {
				t.Errorf("P16.2: Plus(%v, %d) = %v", h, x, p)
			}
		}
	}
}

// TestPlusAboutT: the sum T itself, and those beside it.
func TestPlusAboutT(t *testing.T) {
	for _, at := range edges {
		if !fold.Plus(ge(at), at) || !fold.Plus(le(at), at) {
			t.Errorf("P16.2: T itself is not plus: %d", at)
		}
		if at > math.MinInt64 && (fold.Plus(ge(at), at-1) || !fold.Plus(le(at), at-1)) {
			t.Errorf("P16.2: one below %d", at)
		}
		if at < math.MaxInt64 && (!fold.Plus(ge(at), at+1) || fold.Plus(le(at), at+1)) {
			t.Errorf("P16.2: one above %d", at)
		}
		// Of a T that may not be, too.
		if !fold.Plus(api.Thresh{Mode: 3, T: at}, at) || fold.Plus(api.Thresh{Mode: 4, T: at}, at) {
			t.Errorf("P16.2: always, or never, with T %d", at)
		}
	}
}
