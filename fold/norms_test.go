package fold_test

import (
	"math"
	"math/big"
	"testing"

	"heddle/api"
	"heddle/fold"
	"heddle/frac"
)

func worth(f api.Frac) *big.Rat { return big.NewRat(f.Num, f.Den) }

// place is M - B * S / G, exactly; G is not 0.
func place(n api.Norm) *big.Rat {
	y := new(big.Rat).Mul(worth(n.B), worth(n.S))
	y.Quo(y, worth(n.G))
	return y.Sub(worth(n.M), y)
}

// down is the greatest whole number that is not above y.
func down(y *big.Rat) *big.Int { return new(big.Int).Div(y.Num(), y.Denom()) }

// up is the least whole number that is not below y.
func up(y *big.Rat) *big.Int {
	n := down(new(big.Rat).Neg(y))
	return n.Neg(n)
}

// folded is the threshold of a norm that may be, as the document tells it.
func folded(n api.Norm) api.Thresh {
	low, high := big.NewInt(-most), big.NewInt(most)
	switch worth(n.G).Sign() {
	case 1:
		first := up(place(n)) // the least sum that becomes 1
		if first.Cmp(low) <= 0 {
			return plus
		} else if first.Cmp(high) > 0 {
			return minus
		}
		return ge(first.Int64())
	case -1:
		last := down(place(n)) // the greatest one
		if last.Cmp(high) >= 0 {
			return plus
		} else if last.Cmp(low) < 0 {
			return minus
		}
		return le(last.Int64())
	}
	if worth(n.B).Sign() < 0 {
		return minus
	}
	return plus
}

// agrees tells of a sum of which the threshold says other than the norm.
func agrees(t *testing.T, n api.Norm, h api.Thresh, x int64) {
	t.Helper()
	p, e := frac.Plus(n, x)
	if e != api.OK || fold.Plus(h, x) != p {
		t.Errorf("P16.3: Fold(%v) = %v: at %d the norm says %v, %d", n, h, x, p, e)
	}
}

// folds holds a norm's threshold against the document's words, and against the norm itself at both ends, about 0 and about T.
func folds(t *testing.T, n api.Norm) api.Thresh {
	t.Helper()
	h, e := fold.Fold(n)
	if want := folded(n); h != want || e != api.OK {
		t.Errorf("P16.3: Fold(%v) = %v, %d, want %v", n, h, e, want)
	}
	if e := fold.Check(h); e != api.OK {
		t.Errorf("P16.3: Fold(%v) = %v, which may not be: %d", n, h, e)
	}
	for _, x := range []int64{-most, 1 - most, -1, 0, 1, most - 1, most} {
		agrees(t, n, h, x)
	}
	for x := max(h.T-2, -most); x <= min(h.T+2, most); x++ {
		agrees(t, n, h, x)
	}
	return h
}

// wrongs are no fractions.
var wrongs = []api.Frac{of(1, 0), of(0, 0), of(1, -1), of(-1, maxDen+1), of(most+1, 1), of(-most-1, 1), of(math.MinInt64, math.MinInt64), of(math.MaxInt64, math.MaxInt64), of(math.MaxInt64, 1), of(1, math.MinInt64)}

// TestFoldOfNoNorms: each of the four no fraction, in each way, beside each of the others that is one or none, and beside an S that is 1, 0 or below it.
func TestFoldOfNoNorms(t *testing.T) {
	any := append([]api.Frac{whole(1), of(-7, 2)}, wrongs...)
	isWrong := func(i int) bool { return i >= 2 }
	for g := range any {
		for b := range any {
			for m := range any {
				for i, s := range append([]api.Frac{whole(1), of(1, maxDen), whole(0), of(-1, 2), of(-most, maxDen)}, wrongs...) {
					want := api.OK
					if isWrong(g) || isWrong(b) || isWrong(m) || i >= 5 {
						want = api.ErrFrac
					} else if i >= 2 {
						want = api.ErrNorm
					}
					n := norm(any[g], any[b], any[m], s)
					h, e := fold.Fold(n)
					if e != want || e != frac.Norm(n) || (e != api.OK) != (h == api.Thresh{}) {
						t.Errorf("P16.3: Fold(%v) = %v, %d, want %d", n, h, e, want)
					}
				}
			}
		}
	}
}

// either are fractions of both signs and 0: small and great ones, with denominators from 1 to the greatest, some not in their least numbers.
var either = []api.Frac{
	whole(0), of(0, maxDen), whole(1), whole(-1), of(7, 2), of(-7, 2), of(4, 6), of(-9, 7),
	of(1, maxDen), of(-1, maxDen), of(most, 1), of(-most, 1), of(most, maxDen), of(-most, maxDen), of(most-1, maxDen-1), of(1-most, maxDen-1), of(1-most, 3),
}

// above are fractions above 0, for S.
var above = []api.Frac{whole(1), whole(3), of(1, 2), of(6, 4), of(1, maxDen), of(1, maxDen-1), of(most, 1), of(most, maxDen), of(most-1, 3)}

// TestFold: all of these in all places of a norm; each Mode is told of many.
func TestFold(t *testing.T) {
	t.Parallel()
	var told [5]int
	for _, g := range either {
		t.Run("", func(t *testing.T) {
			for _, b := range either {
				for _, m := range either {
					for _, s := range above {
						told[folds(t, norm(g, b, m, s)).Mode]++
					}
				}
			}
		})
	}
	for mode := api.ModeGE; mode <= api.ModeMinus; mode++ {
		if told[mode] < 1000 {
			t.Errorf("P16.3: only %d of the norms have the Mode %d", told[mode], mode)
		}
	}
}

// TestSmallNorms: of small norms the threshold says what they say of every sum about 0, beyond wherever they turn.
func TestSmallNorms(t *testing.T) {
	t.Parallel()
	var small []api.Frac
	for num := int64(-2); num <= 2; num++ {
		for den := int64(1); den <= 3; den++ {
			small = append(small, of(num, den))
		}
	}
	for _, g := range small {
		t.Run("", func(t *testing.T) {
			t.Parallel()
			for _, b := range small {
				for _, m := range small {
					for _, s := range small {
						if s.Num < 1 {
							continue
						}
						n := norm(g, b, m, s)
						h := folds(t, n)
						for x := int64(-20); x <= 20; x++ {
							agrees(t, n, h, x)
						}
					}
				}
			}
		})
	}
}

// TestManySums: of a few norms the threshold says what they say of a hundred thousand sums on end, and of some all over.
func TestManySums(t *testing.T) {
	t.Parallel()
	for _, n := range []api.Norm{
		norm(of(3, 7), of(-11000, 13), of(1, 2), of(9, 5)),
		norm(of(-3, 7), of(-11000, 13), of(1, 2), of(9, 5)),
		norm(of(1, maxDen), of(1, maxDen), of(-1, maxDen), of(maxDen-1, 33)),
		norm(of(-most, maxDen), of(most, 3), of(-20000, 7), of(50, 3)),
		norm(whole(0), of(1, maxDen), of(most, maxDen), whole(1)),
		norm(whole(0), of(-1, maxDen), of(most, maxDen), whole(1)),
		norm(of(most, maxDen), of(-most, 7), of(20000, 7), whole(most)),
	} {
		t.Run("", func(t *testing.T) {
			t.Parallel()
			h := folds(t, n)
			for x := int64(-50000); x <= 50000; x++ {
				agrees(t, n, h, x)
			}
			for x := int64(-most); x <= most; x += 99991 {
				agrees(t, n, h, x)
			}
		})
	}
}

// chance gives words that look like chance, the same ones each time.
func chance() func() uint64 {
	state := uint64(16)
	return func() uint64 {
		state = state*6364136223846793005 + 1442695040888963407
		return state ^ state>>29
	}
}

// some gives fractions as if by chance, with numbers of all lengths.
func some(next func() uint64) api.Frac {
	num := int64(next() % (most + 1) >> (next() % 28))
	den := int64(next()%maxDen>>(next()%18)) + 1
	if next()%2 == 0 {
		num = -num
	}
	return of(num, den)
}

// TestNormsByChance: norms of all kinds, of which many turn among the sums, and many reckon beyond 64 bits.
func TestNormsByChance(t *testing.T) {
	t.Parallel()
	next := chance()
	turns, wides := 0, 0
	for range 30000 {
		n := norm(some(next), some(next), some(next), some(next))
		n.S.Num = max(n.S.Num, -n.S.Num, 1)
		if folds(t, n).T != 0 {
			turns++
		}
		if n.G.Num != 0 && !reckoned(n).IsInt64() {
			wides++
		}
	}
	if turns < 10000 || wides < 10000 {
		t.Errorf("P16.3: only %d of the norms turn among the sums, and only %d reckon beyond 64 bits", turns, wides)
	}
}

// reckoned is the numerator of M - B * S / G, not in its least numbers.
func reckoned(n api.Norm) *big.Int {
	all := func(factors ...int64) *big.Int {
		y := big.NewInt(1)
		for _, f := range factors {
			y.Mul(y, big.NewInt(f))
		}
		return y
	}
	return new(big.Int).Sub(all(n.M.Num, n.G.Num, n.B.Den, n.S.Den), all(n.B.Num, n.S.Num, n.G.Den, n.M.Den))
}

// TestHairs: the norm is 0 at a sum, or beside 0 by as little as can be, where floats and numbers of 64 bits see no difference.
func TestHairs(t *testing.T) {
	const near = 2047*maxDen - 1 // (2047 - 1 / 2^20) * 2^20
	rise := norm(of(most, maxDen-1), of(-near, maxDen), of(1, maxDen), of(most, maxDen-1))
	fall := norm(of(-most, maxDen-1), of(near, maxDen), of(1, maxDen), of(most, maxDen-1))
	with := func(n api.Norm, change func(n *api.Norm)) api.Norm {
		change(&n)
		return n
	}
	for i, c := range []struct {
		n api.Norm
		h api.Thresh
	}{
		{rise, ge(2047)},
		{fall, le(2047)},
		{with(rise, func(n *api.Norm) { n.B.Num-- }), ge(2048)},
		{with(rise, func(n *api.Norm) { n.B.Num++ }), ge(2047)},
		{with(rise, func(n *api.Norm) { n.M.Num++ }), ge(2048)},
		{with(rise, func(n *api.Norm) { n.M.Num-- }), ge(2047)},
		{with(rise, func(n *api.Norm) { n.G.Num-- }), ge(2048)},
		{with(rise, func(n *api.Norm) { n.S.Num-- }), ge(2047)},
		{with(fall, func(n *api.Norm) { n.B.Num-- }), le(2046)},
		{with(fall, func(n *api.Norm) { n.B.Num++ }), le(2047)},
		{with(fall, func(n *api.Norm) { n.M.Num++ }), le(2047)},
		{with(fall, func(n *api.Norm) { n.M.Num-- }), le(2046)},
		{with(fall, func(n *api.Norm) { n.G.Num++ }), le(2047)},
		{with(fall, func(n *api.Norm) { n.S.Num-- }), le(2046)},
	} {
		if h := folds(t, c.n); h != c.h {
			t.Errorf("P16.3: %d: Fold(%v) = %v, want %v", i, c.n, h, c.h)
		}
	}
}

// TestFoldAtTheEnds: norms that turn at the least or the greatest sum, one beside it, or a hair beside it.
func TestFoldAtTheEnds(t *testing.T) {
	hair := of(1, maxDen)
	turned := func(f api.Frac) api.Frac { return of(-f.Num, f.Den) }
	for _, c := range []struct {
		end    int64    // M
		beside api.Frac // how far above it the norm turns
		up     api.Thresh
		down   api.Thresh
	}{
		{-most, whole(-most), plus, minus},
		{-most, whole(-2), plus, minus},
		{-most, whole(-1), plus, minus},
		{-most, turned(hair), plus, minus},
		{-most, whole(0), plus, le(-most)},
		{-most, hair, ge(1 - most), le(-most)},
		{-most, whole(1), ge(1 - most), le(1 - most)},
		{-most, of(3, 2), ge(2 - most), le(1 - most)},
		{-most, whole(2), ge(2 - most), le(2 - most)},
		{-most, whole(most), ge(0), le(0)},
		{most, whole(-most), ge(0), le(0)},
		{most, whole(-2), ge(most - 2), le(most - 2)},
		{most, of(-3, 2), ge(most - 1), le(most - 2)},
		{most, whole(-1), ge(most - 1), le(most - 1)},
		{most, turned(hair), ge(most), le(most - 1)},
		{most, whole(0), ge(most), plus},
		{most, hair, minus, plus},
		{most, whole(1), minus, plus},
		{most, whole(2), minus, plus},
		{most, whole(most), minus, plus},
	} {
		for _, size := range []api.Frac{whole(1), of(7, 3), whole(most), hair, of(most-1, maxDen)} {
			// As G and S are alike in amount, the norm turns at M - B, or at M + B.
			if h := folds(t, norm(size, turned(c.beside), whole(c.end), size)); h != c.up {
				t.Errorf("P16.3: %v above %d, rising by %v: %v, want %v", c.beside, c.end, size, h, c.up)
			}
			if h := folds(t, norm(turned(size), c.beside, whole(c.end), size)); h != c.down {
				t.Errorf("P16.3: %v above %d, falling by %v: %v, want %v", c.beside, c.end, size, h, c.down)
			}
		}
	}
}

// TestFarBeyond: norms that turn where no number of 64 bits is; wrapped round they would turn among the sums.
func TestFarBeyond(t *testing.T) {
	hair := of(1, maxDen)
	for _, s := range []api.Frac{whole(most), whole(1 << 30), of(most, 3)} {
		for _, b := range []int64{1 << 30, most, most - 1} {
			for _, m := range []api.Frac{whole(0), whole(5), of(-most, 1), of(most, maxDen)} {
				for _, c := range []struct {
					g api.Frac
					b int64
					h api.Thresh
				}{{hair, b, plus}, {hair, -b, minus}, {of(-1, maxDen), b, plus}, {of(-1, maxDen), -b, minus}} {
					n := norm(c.g, whole(c.b), m, s)
					if h := folds(t, n); h != c.h || down(place(n)).IsInt64() {
						t.Errorf("P16.3: Fold(%v) = %v, want %v", n, h, c.h)
					}
				}
			}
		}
	}
}

// TestFoldWithoutSlope: with G 0 B alone tells, whatever M and S are.
func TestFoldWithoutSlope(t *testing.T) {
	for _, b := range either {
		want := plus
		if b.Num < 0 {
			want = minus
		}
		for _, g := range []api.Frac{whole(0), of(0, 7), of(0, maxDen)} {
			for _, m := range either {
				for _, s := range above {
					if h := folds(t, norm(g, b, m, s)); h != want {
						t.Errorf("P16.3: Fold of G 0, B %v, M %v, S %v = %v", b, m, s, h)
					}
				}
			}
		}
	}
}
