package frac_test

import (
	"math"
	"math/big"
	"sync"
	"testing"

	"heddle/api"
	"heddle/frac"
)

// The limits by their own numbers, as the document tells them.
const (
	maxNum = 2147483647
	maxDen = 1048576
)

// nums and dens are at the edges of what may be, beside them, and far beyond, where products and signs would wrap.
var (
	nums = []int64{math.MinInt64, math.MinInt64 + 1, -1 << 32, -maxNum - 2, -maxNum - 1, -maxNum, -maxNum + 1, -1 << 30, -maxDen, -1000, -6, -4, -3, -2, -1, 0, 1, 2, 3, 4, 6, 1000, 46341, maxDen - 1, maxDen, maxDen + 1, 1 << 30, maxNum - 1, maxNum, maxNum + 1, maxNum + 2, 1 << 32, 1<<32 + 1, 1 << 62, math.MaxInt64 - 1, math.MaxInt64}
	dens = []int64{math.MinInt64, math.MinInt64 + 1, -1 << 32, -maxDen, -2, -1, 0, 1, 2, 3, 4, 6, 7, 1000, 1 << 19, maxDen - 1, maxDen, maxDen + 1, maxDen + 2, maxNum, 1 << 32, 1<<32 + 1, 1 << 62, math.MaxInt64}
)

func of(num, den int64) api.Frac { return api.Frac{Num: num, Den: den} }

func whole(n int64) api.Frac { return of(n, 1) }

// fault is what the document says of a fraction.
func fault(f api.Frac) api.Errno {
	if f.Den >= 1 && f.Den <= maxDen && f.Num >= -maxNum && f.Num <= maxNum {
		return api.OK
	}
	return api.ErrFrac
}

// worth is a fraction's exact worth.
func worth(f api.Frac) *big.Rat { return big.NewRat(f.Num, f.Den) }

// all are all pairs of nums and dens.
func all() []api.Frac {
	var list []api.Frac
	for _, n := range nums {
		for _, d := range dens {
			list = append(list, of(n, d))
		}
	}
	return list
}

func TestCheckAtAllEdges(t *testing.T) {
	for _, f := range all() {
		if e := frac.Check(f); e != fault(f) {
			t.Errorf("P4.1: Check(%v) = %d, want %d", f, e, fault(f))
		}
	}
}

func TestCheckOfTheDocument(t *testing.T) {
	for _, c := range []struct {
		f api.Frac
		e api.Errno
	}{
		{of(1, 0), api.ErrFrac},
		{of(1, -1), api.ErrFrac},
		{of(1, 1048577), api.ErrFrac},
		{of(2147483648, 1), api.ErrFrac},
		{of(-2147483647, 1048576), api.OK},

		{of(0, 0), api.ErrFrac},
		{of(1, 1), api.OK},
		{of(1, 1048576), api.OK},
		{of(2147483647, 1), api.OK},
		{of(-2147483648, 1), api.ErrFrac},
		{of(math.MinInt64, 1), api.ErrFrac},
		{of(math.MaxInt64, 1), api.ErrFrac},
		{of(1, math.MinInt64), api.ErrFrac},
		{of(1, math.MaxInt64), api.ErrFrac},
	} {
		if e := frac.Check(c.f); e != c.e {
			t.Errorf("P4.1: Check(%v) = %d, want %d", c.f, e, c.e)
		}
	}
}

func TestReduceAtAllEdges(t *testing.T) {
	for _, f := range all() {
		var want api.Frac
		if fault(f) == api.OK {
			w := worth(f)
			want = of(w.Num().Int64(), w.Denom().Int64())
		}
		if r, e := frac.Reduce(f); r != want || e != fault(f) {
			t.Errorf("P4.2: Reduce(%v) = %v, %d, want %v, %d", f, r, e, want, fault(f))
		}
	}
}

// leastDen finds by trial the smallest denominator with which f's worth can be written.
func leastDen(f api.Frac) int64 {
	den := int64(1)
	for f.Num*den%f.Den != 0 {
		den++
	}
	return den
}

func TestReduceByTrial(t *testing.T) {
	for num := int64(-60); num <= 60; num++ {
		for den := int64(1); den <= 60; den++ {
			f := of(num, den)
			least := leastDen(f)
			want := of(num*least/den, least)
			if r, e := frac.Reduce(f); r != want || e != api.OK {
				t.Errorf("P4.2: Reduce(%v) = %v, %d, want %v", f, r, e, want)
			}
		}
	}
}

func TestReduceOfTheDocument(t *testing.T) {
	for _, c := range []struct{ f, want api.Frac }{
		{of(6, 4), of(3, 2)},
		{of(-6, 4), of(-3, 2)},
		{of(0, 7), of(0, 1)},
		{of(5, 1), of(5, 1)},

		{of(0, 1), of(0, 1)},
		{of(0, maxDen), of(0, 1)},
		{of(maxNum, maxDen), of(maxNum, maxDen)},
		{of(-maxNum, maxDen), of(-maxNum, maxDen)},
		{of(-maxDen, maxDen), of(-1, 1)},
		{of(1<<30, maxDen), of(1024, 1)},
		{of(-2, maxDen), of(-1, 1<<19)},
		{of(1048575*2048, 1048575), of(2048, 1)},
		{of(1048574, 1048575), of(1048574, 1048575)},
		{of(1, 0), api.Frac{}},
		{of(0, 0), api.Frac{}},
		{of(6, -4), api.Frac{}},
		{of(math.MinInt64, 2), api.Frac{}},
	} {
		if r, e := frac.Reduce(c.f); r != c.want || e != fault(c.f) {
			t.Errorf("P4.2: Reduce(%v) = %v, %d, want %v, %d", c.f, r, e, c.want, fault(c.f))
		}
	}
}

func TestCmpAtAllEdges(t *testing.T) {
	for _, a := range all() {
		for _, b := range all() {
			want, e := 0, max(fault(a), fault(b))
			if e == api.OK {
				want = worth(a).Cmp(worth(b))
			}
			if n, g := frac.Cmp(a, b); n != want || g != e {
				t.Errorf("P4.3: Cmp(%v, %v) = %d, %d, want %d, %d", a, b, n, g, want, e)
			}
		}
	}
}

func TestCmpOfTheDocument(t *testing.T) {
	for _, c := range []struct {
		a, b api.Frac
		n    int
		e    api.Errno
	}{
		{of(1, 2), of(2, 4), 0, api.OK},
		{of(-1, 3), of(-1, 4), -1, api.OK},
		{of(2147483647, 1048576), of(2147483647, 1048575), -1, api.OK},
		{of(1, 2), of(1, 0), 0, api.ErrFrac},

		{of(1, 0), of(1, 2), 0, api.ErrFrac},
		{of(1, 0), of(1, 0), 0, api.ErrFrac},
		{of(1, -2), of(-1, 2), 0, api.ErrFrac},
		{of(0, 3), of(0, maxDen), 0, api.OK},
		{of(-6, 4), of(-9, 6), 0, api.OK},
		{of(-1, 2), of(1, 2), -1, api.OK},
		{of(1, 2), of(-1, 2), 1, api.OK},
		{of(1<<30, maxDen), whole(1024), 0, api.OK},
		// Two of different worth cannot be nearer: they differ by 1 / (1048576 * 1048575).
		{of(1048575, 1048576), of(1048574, 1048575), 1, api.OK},
		{of(2047*1048576+1, 1048576), of(2047*1048575+1, 1048575), -1, api.OK},
		{of(-2047*1048576-1, 1048576), of(-2047*1048575-1, 1048575), 1, api.OK},
		{of(maxNum, 1), of(maxNum-1, 1), 1, api.OK},
		{of(-maxNum, 1), of(1-maxNum, 1), -1, api.OK},
	} {
		if n, e := frac.Cmp(c.a, c.b); n != c.n || e != c.e {
			t.Errorf("P4.3: Cmp(%v, %v) = %d, %d, want %d, %d", c.a, c.b, n, e, c.n, c.e)
		}
	}
}

// asked is all that the calls answer of two fractions, a sum and a text.
type asked struct {
	check    api.Errno
	least    api.Frac
	leastErr api.Errno
	order    int
	orderErr api.Errno
	norm     api.Errno
	plus     bool
	plusErr  api.Errno
	text     string
	textErr  api.Errno
	read     api.Frac
	readErr  api.Errno
}

func ask(a, b api.Frac, x int64, s string) asked {
	var r asked
	n := api.Norm{G: a, B: b, M: b, S: a}
	r.check = frac.Check(a)
	r.least, r.leastErr = frac.Reduce(a)
	r.order, r.orderErr = frac.Cmp(a, b)
	r.norm = frac.Norm(n)
	r.plus, r.plusErr = frac.Plus(n, x)
	r.text, r.textErr = frac.Show(a)
	r.read, r.readErr = frac.Read(s)
	return r
}

func TestAnswersHangOnArgumentsAlone(t *testing.T) {
	list := []api.Frac{of(6, 4), of(-6, 4), of(0, 7), of(maxNum, maxDen), of(-maxNum, 1), of(1, 0), of(3, 2)}
	texts := []string{"3/2", "-7", "7/1", "0/5", "", "2147483648", "x"}
	askAll := func(order func(i int) int) []asked {
		answers := make([]asked, len(list)*len(list))
		for i := range answers {
			at := order(i)
			a, b := at/len(list), at%len(list)
			answers[at] = ask(list[a], list[b], int64(a-b), texts[b])
		}
		return answers
	}
	first := askAll(func(i int) int { return i })
	var group sync.WaitGroup
	for range 4 {
		group.Go(func() {
			again := askAll(func(i int) int { return len(first) - 1 - i })
			for i := range first {
				if first[i] != again[i] {
					t.Errorf("P4.7: first %v, then %v", first[i], again[i])
				}
			}
		})
	}
	group.Wait()
}
