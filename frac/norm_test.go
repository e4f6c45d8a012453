package frac_test

import (
	"math"
	"math/big"
	"testing"

	"heddle/api"
	"heddle/frac"
)

func norm(g, b, m, s api.Frac) api.Norm { return api.Norm{G: g, B: b, M: m, S: s} }

// normFault is what the document says of a norm.
func normFault(n api.Norm) api.Errno {
	if e := max(fault(n.G), fault(n.B), fault(n.M), fault(n.S)); e != api.OK {
		return e
	}
	if n.S.Num < 1 {
		return api.ErrNorm
	}
	return api.OK
}

// exact is G * (x - M) / S + B.
func exact(n api.Norm, x int64) *big.Rat {
	y := new(big.Rat).Sub(new(big.Rat).SetInt64(x), worth(n.M))
	y.Mul(y, worth(n.G))
	y.Quo(y, worth(n.S))
	return y.Add(y, worth(n.B))
}

// holds tells of an answer of Plus that is not that of the exact fractions.
func holds(t *testing.T, n api.Norm, x int64) {
	t.Helper()
	want := exact(n, x).Sign() >= 0
	if p, e := frac.Plus(n, x); p != want || e != api.OK {
		t.Errorf("P4.5: Plus(%v, %d) = %v, %d, want %v", n, x, p, e, want)
	}
}

func TestNormOfEveryFraction(t *testing.T) {
	one := whole(1)
	for _, f := range all() {
		for _, n := range []api.Norm{norm(f, one, one, one), norm(one, f, one, one), norm(one, one, f, one), norm(one, one, one, f)} {
			want := normFault(n)
			if e := frac.Norm(n); e != want {
				t.Errorf("P4.4: Norm(%v) = %d, want %d", n, e, want)
			}
			p, e := frac.Plus(n, 1)
			if e != want || e != api.OK && p {
				t.Errorf("P4.5: Plus(%v, 1) = %v, %d, want error %d", n, p, e, want)
			}
		}
	}
}

func TestNormFaultsInTheirOrder(t *testing.T) {
	one, none := whole(1), of(1, 0)
	for _, c := range []struct {
		n api.Norm
		e api.Errno
	}{
		{norm(one, whole(0), whole(0), whole(0)), api.ErrNorm},
		{norm(one, whole(0), whole(0), of(-1, 2)), api.ErrNorm},
		{norm(none, api.Frac{}, api.Frac{}, whole(-1)), api.ErrFrac},

		{api.Norm{}, api.ErrFrac},
		{norm(one, one, one, of(1, maxDen)), api.OK},
		{norm(one, one, one, whole(maxNum)), api.OK},
		{norm(one, one, one, whole(maxNum+1)), api.ErrFrac},
		{norm(one, one, one, of(0, maxDen)), api.ErrNorm},
		{norm(one, one, one, whole(-1)), api.ErrNorm},
		{norm(one, one, one, whole(-maxNum)), api.ErrNorm},
		{norm(whole(0), whole(0), whole(0), one), api.OK},
		{norm(whole(-1), whole(-1), whole(-1), one), api.OK},
		// No fraction comes ahead of an S below 1, wherever it stands.
		{norm(none, one, one, whole(0)), api.ErrFrac},
		{norm(one, none, one, whole(0)), api.ErrFrac},
		{norm(one, one, none, whole(-1)), api.ErrFrac},
		{norm(one, one, one, of(0, 0)), api.ErrFrac},
		{norm(one, one, one, of(-1, -1)), api.ErrFrac},
	} {
		if e := frac.Norm(c.n); e != c.e {
			t.Errorf("P4.4: Norm(%v) = %d, want %d", c.n, e, c.e)
		}
		// A norm's fault comes ahead of a sum's.
		if c.e != api.OK {
			for _, x := range []int64{0, maxNum + 1, math.MinInt64} {
				if p, e := frac.Plus(c.n, x); p || e != c.e {
					t.Errorf("P4.5: Plus(%v, %d) = %v, %d, want %d", c.n, x, p, e, c.e)
				}
			}
		}
	}
}

func TestPlusOfSumsOutOfReach(t *testing.T) {
	always := norm(whole(0), whole(1), whole(0), whole(1))
	for _, x := range nums {
		want := api.OK
		if x < -maxNum || x > maxNum {
			want = api.ErrArg
		}
		if p, e := frac.Plus(always, x); p != (want == api.OK) || e != want {
			t.Errorf("P4.5: Plus(%v, %d) = %v, %d, want %d", always, x, p, e, want)
		}
	}
}

func TestPlusOfTheDocument(t *testing.T) {
	for _, c := range []struct {
		n    api.Norm
		x    int64
		plus bool
		e    api.Errno
	}{
		{norm(whole(1), whole(0), whole(0), whole(1)), -1, false, api.OK},
		{norm(whole(1), whole(0), whole(0), whole(1)), 0, true, api.OK},
		{norm(whole(1), whole(0), whole(0), whole(1)), 1, true, api.OK},
		{norm(whole(-1), whole(0), whole(3), whole(2)), 2, true, api.OK},
		{norm(whole(-1), whole(0), whole(3), whole(2)), 3, true, api.OK},
		{norm(whole(-1), whole(0), whole(3), whole(2)), 4, false, api.OK},
		{norm(of(1, 3), whole(-1), of(1, 2), of(1, 2)), 1, false, api.OK},
		{norm(of(1, 3), whole(-1), of(1, 2), of(1, 2)), 2, true, api.OK},
		{norm(of(1, 3), whole(-1), of(1, 2), of(1, 2)), 3, true, api.OK},
		{norm(whole(0), whole(0), whole(5), whole(1)), -9, true, api.OK},
		{norm(whole(0), of(-1, 1048576), whole(5), whole(1)), 9, false, api.OK},
		{norm(whole(1), whole(0), whole(0), whole(1)), 2147483648, false, api.ErrArg},
		{norm(whole(1), whole(0), whole(0), whole(1)), -2147483648, false, api.ErrArg},
		{norm(whole(2147483647), whole(-2147483647), of(-2147483647, 1048576), of(1, 1048576)), 2147483647, true, api.OK},
	} {
		if p, e := frac.Plus(c.n, c.x); p != c.plus || e != c.e {
			t.Errorf("P4.5: Plus(%v, %d) = %v, %d, want %v, %d", c.n, c.x, p, e, c.plus, c.e)
		}
	}
}

func TestPlusOfTheGreatestAmounts(t *testing.T) {
	var either []api.Frac
	for _, num := range []int64{-maxNum, -1, 0, 1, maxNum} {
		either = append(either, of(num, 1), of(num, maxDen))
	}
	above := []api.Frac{of(1, 1), of(1, maxDen), of(maxNum, 1), of(maxNum, maxDen)}
	for _, g := range either {
		for _, b := range either {
			for _, m := range either {
				for _, s := range above {
					for _, x := range []int64{-maxNum, -1, 0, 1, maxNum} {
						holds(t, norm(g, b, m, s), x)
					}
				}
			}
		}
	}
}

// turn is the sum at which a norm with a G that is not 0 changes its answer, rounded down: M - B * S / G.
func turn(n api.Norm) int64 {
	y := new(big.Rat).Mul(worth(n.B), worth(n.S))
	y.Quo(y, worth(n.G))
	y.Sub(worth(n.M), y)
	low := new(big.Int).Div(y.Num(), y.Denom())
	if !low.IsInt64() {
		return math.MaxInt64
	}
	return low.Int64()
}

func TestPlusAroundItsTurn(t *testing.T) {
	list := []api.Frac{whole(0), whole(1), whole(-1), whole(3), whole(-7), of(1, 2), of(-1, 2), of(2, 4), of(5, 3), of(-9, 7), of(1, maxDen), of(-1, maxDen), of(maxNum, maxDen), of(-maxNum, maxDen), of(maxNum, maxDen-1), of(2047*maxDen+1, maxDen), of(1048573, 1048575)}
	turns := 0
	for _, g := range list {
		for _, b := range list {
			for _, m := range list {
				for _, s := range list {
					n := norm(g, b, m, s)
					if s.Num < 1 || g.Num == 0 {
						continue
					}
					low := turn(n)
					if low < -maxNum+2 || low > maxNum-2 {
						continue
					}
					turns++
					for x := low - 1; x <= low+2; x++ {
						holds(t, n, x)
					}
				}
			}
		}
	}
	if turns < 1000 {
		t.Errorf("P4.5: only %d norms turn within the sums", turns)
	}
}

func TestPlusWithoutSlope(t *testing.T) {
	for _, c := range []struct {
		b    api.Frac
		plus bool
	}{
		{whole(0), true},
		{of(0, maxDen), true},
		{of(1, maxDen), true},
		{of(-1, maxDen), false},
		{whole(maxNum), true},
		{whole(-maxNum), false},
	} {
		for _, x := range []int64{-maxNum, -1, 0, 1, maxNum} {
			n := norm(of(0, maxDen), c.b, of(maxNum, maxDen), whole(maxNum))
			if p, e := frac.Plus(n, x); p != c.plus || e != api.OK {
				t.Errorf("P4.5: Plus(%v, %d) = %v, %d, want %v", n, x, p, e, c.plus)
			}
		}
	}
}

// TestPlusByAHair: the exact worth is 0, or beside it by as little as one more or less in a numerator or a sum makes, where floats would see no difference.
func TestPlusByAHair(t *testing.T) {
	const near = 2047*maxDen - 1 // (2047 - 1 / 2^20) * 2^20
	up := norm(of(maxNum, maxDen-1), of(-near, maxDen), of(1, maxDen), of(maxNum, maxDen-1))
	down := norm(of(-maxNum, maxDen-1), of(near, maxDen), of(1, maxDen), of(maxNum, maxDen-1))
	with := func(n api.Norm, change func(n *api.Norm)) api.Norm {
		change(&n)
		return n
	}
	for _, c := range []struct {
		n    api.Norm
		x    int64
		plus bool
	}{
		{up, 2046, false},
		{up, 2047, true},
		{up, 2048, true},
		{down, 2046, true},
		{down, 2047, true},
		{down, 2048, false},
		{with(up, func(n *api.Norm) { n.B.Num-- }), 2047, false},
		{with(up, func(n *api.Norm) { n.B.Num++ }), 2047, true},
		{with(up, func(n *api.Norm) { n.M.Num++ }), 2047, false},
		{with(up, func(n *api.Norm) { n.M.Num-- }), 2047, true},
		{with(up, func(n *api.Norm) { n.G.Num-- }), 2047, false},
		{with(up, func(n *api.Norm) { n.S.Num-- }), 2047, true},
		{with(up, func(n *api.Norm) { n.G.Den++ }), 2047, false},
		{with(up, func(n *api.Norm) { n.S.Den-- }), 2047, false},
		{with(up, func(n *api.Norm) { n.S.Den++ }), 2047, true},
		{with(down, func(n *api.Norm) { n.B.Num-- }), 2047, false},
		{with(down, func(n *api.Norm) { n.M.Num++ }), 2047, true},
		{with(down, func(n *api.Norm) { n.M.Num-- }), 2047, false},
		{with(down, func(n *api.Norm) { n.G.Num++ }), 2047, true},
		{with(down, func(n *api.Norm) { n.S.Num-- }), 2047, false},
	} {
		holds(t, c.n, c.x)
		if p, e := frac.Plus(c.n, c.x); p != c.plus || e != api.OK {
			t.Errorf("P4.5: Plus(%v, %d) = %v, %d, want %v", c.n, c.x, p, e, c.plus)
		}
	}
}
