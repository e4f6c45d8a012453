package fold_test

import (
	"testing"

	"heddle/api"
	"heddle/fold"
)

func TestFoldsOfTheDocument(t *testing.T) {
	for _, c := range []struct {
		n api.Norm
		h api.Thresh
	}{
		{norm(whole(1), whole(0), whole(0), whole(1)), ge(0)},
		{norm(whole(1), whole(0), of(7, 2), whole(1)), ge(4)},
		{norm(whole(-1), whole(0), of(7, 2), whole(1)), le(3)},
		{norm(whole(2), whole(1), whole(0), whole(3)), ge(-1)},
		{norm(whole(-2), whole(1), whole(0), whole(3)), le(1)},
		{norm(of(1, 3), whole(-1), of(1, 2), of(1, 2)), ge(2)},
		{norm(whole(0), whole(0), whole(5), whole(1)), plus},
		{norm(whole(0), of(1, 9), whole(5), whole(1)), plus},
		{norm(whole(0), of(-1, 9), whole(5), whole(1)), minus},
		{norm(whole(1), whole(0), whole(-2147483647), whole(1)), plus},
		{norm(whole(1), whole(0), whole(2147483647), whole(1)), ge(2147483647)},
		{norm(whole(1), whole(-1), whole(2147483647), whole(1)), minus},
		{norm(whole(-1), whole(0), whole(2147483647), whole(1)), plus},
		{norm(whole(-1), whole(-1), whole(-2147483647), whole(1)), minus},
		{norm(whole(-1), whole(0), whole(-2147483647), whole(1)), le(-2147483647)},
		{norm(of(1, 1048576), whole(2147483647), whole(0), whole(2147483647)), plus},
	} {
		if h := folds(t, c.n); h != c.h {
			t.Errorf("P16.3: Fold(%v) = %v, want %v", c.n, h, c.h)
		}
	}
	if h, e := fold.Fold(norm(whole(1), whole(0), whole(0), whole(0))); h != (api.Thresh{}) || e != api.ErrNorm {
		t.Errorf("P16.3: Fold with S 0 = %v, %d", h, e)
	}
	if h, e := fold.Fold(norm(of(1, 0), whole(0), whole(0), whole(1))); h != (api.Thresh{}) || e != api.ErrFrac {
		t.Errorf("P16.3: Fold with no fraction = %v, %d", h, e)
	}
}

func TestPlusOfTheDocument(t *testing.T) {
	for _, c := range []struct {
		h    api.Thresh
		x    int64
		plus bool
	}{
		{ge(3), 3, true},
		{ge(3), 2, false},
		{le(3), 3, true},
		{api.Thresh{Mode: 0, T: 3}, 3, false},
		{api.Thresh{Mode: 9, T: 0}, 0, false},
	} {
		if p := fold.Plus(c.h, c.x); p != c.plus {
			t.Errorf("P16.2: Plus(%v, %d) = %v", c.h, c.x, p)
		}
	}
}

func TestChecksOfTheDocument(t *testing.T) {
	for _, c := range []struct {
		h api.Thresh
		e api.Errno
	}{
		{ge(-2147483647), api.ErrThresh},
		{ge(2147483647), api.OK},
		{le(2147483647), api.ErrThresh},
		{le(-2147483647), api.OK},
		{api.Thresh{Mode: api.ModePlus, T: 1}, api.ErrThresh},
	} {
		if e := fold.Check(c.h); e != c.e {
			t.Errorf("P16.1: Check(%v) = %d, want %d", c.h, e, c.e)
		}
	}
}

func TestTrimsOfTheDocument(t *testing.T) {
	for _, c := range []struct {
		h      api.Thresh
		lo, hi int64
		want   api.Thresh
		e      api.Errno
	}{
		{ge(3), -2, 2, minus, api.OK},
		{ge(3), 3, 9, plus, api.OK},
		{ge(3), 2, 3, ge(3), api.OK},
		{le(3), 4, 4, minus, api.OK},
		{plus, 0, 0, plus, api.OK},
		{ge(3), 2, 1, api.Thresh{}, api.ErrArg},
		{api.Thresh{}, 2, 1, api.Thresh{}, api.ErrThresh},
	} {
		if got, e := fold.Trim(c.h, api.Reach{Lo: c.lo, Hi: c.hi}); got != c.want || e != c.e {
			t.Errorf("P16.4: Trim(%v, %d to %d) = %v, %d, want %v, %d", c.h, c.lo, c.hi, got, e, c.want, c.e)
		}
	}
}

func TestNormsOfTheDocument(t *testing.T) {
	for _, c := range []struct {
		h api.Thresh
		n api.Norm
	}{
		{ge(3), norm(whole(1), whole(0), whole(3), whole(1))},
		{le(-4), norm(whole(-1), whole(0), whole(-4), whole(1))},
	} {
		if n, e := fold.Norm(c.h); n != c.n || e != api.OK {
			t.Errorf("P16.5: Norm(%v) = %v, %d, want %v", c.h, n, e, c.n)
		}
	}
}
