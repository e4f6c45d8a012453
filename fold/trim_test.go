package fold_test

import (
	"testing"

	"heddle/api"
	"heddle/fold"
	"heddle/frac"
)

// reaches are those from each edge to each other one: such as may be, and such as may not.
func reaches() []api.Reach {
	var list []api.Reach
	for _, lo := range edges {
		for _, hi := range edges {
			list = append(list, api.Reach{Lo: lo, Hi: hi})
		}
	}
	return list
}

// reachFault is what the document says of a reach.
func reachFault(r api.Reach) api.Errno {
	if r.Lo < -2147483647 || r.Hi > 2147483647 || r.Lo > r.Hi {
		return api.ErrArg
	}
	return api.OK
}

// pluses is how many sums of a reach that may be become plus.
func pluses(t api.Thresh, r api.Reach) int64 {
	switch t.Mode {
	case 1:
		return max(0, r.Hi-max(r.Lo, t.T)+1)
	case 2:
		return max(0, min(r.Hi, t.T)-r.Lo+1)
	case 3:
		return r.Hi - r.Lo + 1
	}
	return 0
}

// trimmed is what a threshold is trimmed to, of which so many of all sums become plus.
func trimmed(t api.Thresh, count, all int64) api.Thresh {
	switch count {
	case all:
		return plus
	case 0:
		return minus
	}
	return t
}

// TestTrim: every threshold that may be by every reach, of one sum up to all of them; and reaches that may not be.
func TestTrim(t *testing.T) {
	for _, h := range goodThreshes() {
		for _, r := range reaches() {
			want, e := api.Thresh{}, reachFault(r)
			if e == api.OK {
				want = trimmed(h, pluses(h, r), r.Hi-r.Lo+1)
			}
			if got, is := fold.Trim(h, r); got != want || is != e {
				t.Errorf("P16.4: Trim(%v, %v) = %v, %d, want %v, %d", h, r, got, is, want, e)
			}
		}
	}
}

// TestTrimOfNoThreshes: a fault of the threshold comes ahead of one of the reach.
func TestTrimOfNoThreshes(t *testing.T) {
	for _, h := range badThreshes() {
		for _, r := range reaches() {
			if got, e := fold.Trim(h, r); got != (api.Thresh{}) || e != api.ErrThresh {
				t.Errorf("P16.4: Trim(%v, %v) = %v, %d", h, r, got, e)
			}
		}
	}
}

// TestTrimByNoReaches: each fault of a reach alone, and beside each other one.
func TestTrimByNoReaches(t *testing.T) {
	for _, h := range []api.Thresh{ge(0), ge(1 - most), ge(most), le(0), le(-most), le(most - 1), plus, minus} {
		for _, r := range []api.Reach{
			{Lo: -most - 1, Hi: 0}, {Lo: -most - 1, Hi: -most}, {Lo: -most - 1, Hi: most}, // Lo is too low
			{Lo: 0, Hi: most + 1}, {Lo: most, Hi: most + 1}, {Lo: -most, Hi: most + 1}, // Hi is too high
			{Lo: 1, Hi: 0}, {Lo: most, Hi: -most}, {Lo: 1 - most, Hi: -most}, {Lo: most, Hi: most - 1}, // Lo is above Hi
			{Lo: -most - 1, Hi: most + 1}, {Lo: -1 << 63, Hi: 1<<63 - 1}, // too low and too high
			{Lo: -most - 1, Hi: -most - 2}, {Lo: -1<<63 + 1, Hi: -1 << 63}, // too low and above Hi
			{Lo: most + 2, Hi: most + 1}, {Lo: 1<<63 - 1, Hi: 1<<63 - 2}, // too high and below Lo
			{Lo: -most - 1, Hi: -most - 1}, {Lo: most + 1, Hi: most + 1}, {Lo: 1<<63 - 1, Hi: -1 << 63},
		} {
			if got, e := fold.Trim(h, r); got != (api.Thresh{}) || e != api.ErrArg {
				t.Errorf("P16.4: Trim(%v, %v) = %v, %d", h, r, got, e)
			}
		}
	}
}

// TestSmallTrims: every small threshold by every small reach, sum by sum.
func TestSmallTrims(t *testing.T) {
	list := []api.Thresh{plus, minus}
	for at := int64(-4); at <= 4; at++ {
		list = append(list, ge(at), le(at))
	}
	for _, h := range list {
		for lo := int64(-6); lo <= 6; lo++ {
			for hi := lo; hi <= 6; hi++ {
				count := int64(0)
				for x := lo; x <= hi; x++ {
					if becomesPlus(h, x) {
						count++
					}
				}
				r := api.Reach{Lo: lo, Hi: hi}
				want := trimmed(h, count, hi-lo+1)
				if got, e := fold.Trim(h, r); got != want || e != api.OK {
					t.Errorf("P16.4: Trim(%v, %v) = %v, %d, want %v", h, r, got, e, want)
				}
			}
		}
	}
}

// TestTrimAboutT: reaches that end just at T, or one beside it.
func TestTrimAboutT(t *testing.T) {
	for _, at := range []int64{3 - most, -1000, -1, 0, 1, 77, most - 3} {
		for _, c := range []struct {
			lo, hi int64
			ge, le api.Thresh
		}{
			{-most, at - 1, minus, plus},
			{-most, at, ge(at), plus},
			{-most, at + 1, ge(at), le(at)},
			{at - 1, most, ge(at), le(at)},
			{at, most, plus, le(at)},
			{at + 1, most, plus, minus},
			{at, at, plus, plus},
			{at - 1, at - 1, minus, plus},
			{at + 1, at + 1, plus, minus},
			{at - 1, at, ge(at), plus},
			{at, at + 1, plus, le(at)},
			{-most, most, ge(at), le(at)},
		} {
			r := api.Reach{Lo: c.lo, Hi: c.hi}
			for _, x := range []struct{ given, want api.Thresh }{{ge(at), c.ge}, {le(at), c.le}, {plus, plus}, {minus, minus}} {
				if got, e := fold.Trim(x.given, r); got != x.want || e != api.OK {
					t.Errorf("P16.4: Trim(%v, %v) = %v, %d, want %v", x.given, r, got, e, x.want)
				}
			}
		}
	}
}

// TestTrimByAllSums: over all sums a threshold that may be stays as it is.
func TestTrimByAllSums(t *testing.T) {
	for _, h := range goodThreshes() {
		if got, e := fold.Trim(h, api.Reach{Lo: -most, Hi: most}); got != h || e != api.OK {
			t.Errorf("P16.4: Trim(%v, all sums) = %v, %d", h, got, e)
		}
	}
}

// normOf is the norm that the document names for a threshold that may be.
func normOf(h api.Thresh) api.Norm {
	zero, one := api.Frac{Num: 0, Den: 1}, api.Frac{Num: 1, Den: 1}
	below, at := api.Frac{Num: -1, Den: 1}, api.Frac{Num: h.T, Den: 1}
	switch h.Mode {
	case 1:
		return api.Norm{G: one, B: zero, M: at, S: one}
	case 2:
		return api.Norm{G: below, B: zero, M: at, S: one}
	case 3:
		return api.Norm{G: zero, B: zero, M: zero, S: one}
	}
	return api.Norm{G: zero, B: below, M: zero, S: one}
}

func TestNorm(t *testing.T) {
	for _, h := range goodThreshes() {
		n, e := fold.Norm(h)
		if n != normOf(h) || e != api.OK {
			t.Errorf("P16.5: Norm(%v) = %v, %d, want %v", h, n, e, normOf(h))
		}
		if e := frac.Norm(n); e != api.OK {
			t.Errorf("P16.5: Norm(%v) = %v, which may not be: %d", h, n, e)
		}
		if again, e := fold.Fold(n); again != h || e != api.OK {
			t.Errorf("P16.5: Fold(Norm(%v)) = %v, %d", h, again, e)
		}
		folds(t, n)
	}
}

func TestNormOfNoThreshes(t *testing.T) {
	for _, h := range badThreshes() {
		if n, e := fold.Norm(h); n != (api.Norm{}) || e != api.ErrThresh {
			t.Errorf("P16.5: Norm(%v) = %v, %d", h, n, e)
		}
	}
}

// TestFoldOfNormOfFold: whatever norm a threshold came from, it comes back by way of its own.
func TestFoldOfNormOfFold(t *testing.T) {
	next := chance()
	for range 5000 {
		n := norm(some(next), some(next), some(next), whole(1))
		h, e := fold.Fold(n)
		if e != api.OK {
			t.Fatalf("P16.3: Fold(%v): %d", n, e)
		}
		back, e := fold.Norm(h)
		if again, f := fold.Fold(back); again != h || e != api.OK || f != api.OK {
			t.Errorf("P16.5: Fold(Norm(%v)) = %v, %d, %d", h, again, e, f)
		}
	}
}
