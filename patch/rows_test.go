package patch_test

import (
	"slices"
	"testing"

	"heddle/api"
	"heddle/dot"
	"heddle/patch"
)

// someWeights are so many weights that look like chance.
func someWeights(many, seed int) []int8 {
	next := chance(seed)
	w := make([]int8, many)
	for i := range w {
		w[i] = int8(next(3) - 1)
	}
	return w
}

func TestSpread(t *testing.T) {
	for _, c := range []int{1, 2, 3, 31, 62, 63, 64, 65, 66, 127, 128, 129, 192, 193, 4032, 4033, 4095, 4096} {
		for _, places := range []int{1, 2, 3, 4, 9, 15, 225} {
			for seed := range 2 {
				w := someWeights(c*places, c+places+seed)
				r, e := patch.Spread(c, w...)
				wantRow(t, "P13.3: Spread", r, e, laid(c, w))
			}
			for _, v := range []int8{-1, 0, 1} {
				w := slices.Repeat([]int8{v}, c*places)
				r, e := patch.Spread(c, w...)
				wantRow(t, "P13.3: Spread of one weight", r, e, laid(c, w))
			}
		}
	}
}

// TestSpreadEachBit: each weight has a bit of its own, where the document says.
func TestSpreadEachBit(t *testing.T) {
	for _, c := range []int{1, 5, 63, 64, 65, 129} {
		wide := wordsOf(c)
		for i := range 4 * c {
			for _, v := range []int8{-1, 1} {
				w := make([]int8, 4*c)
				w[i] = v
				r, e := patch.Spread(c, w...)
				if e != api.OK || r.Some.Len != 4*wide*64 || len(r.Some.Words) != 4*wide || len(r.Sign.Words) != 4*wide {
					t.Fatalf("P13.3: Spread(%d, %d weights): Len %d, %d", c, len(w), r.Some.Len, e)
				}
				for k := range r.Some.Words {
					some, sign := uint64(0), uint64(0)
					if k == i/c*wide+i%c/64 {
						some = 1 << (i % c % 64)
					}
					if v == 1 {
						sign = some
					}
					if r.Some.Words[k] != some || r.Sign.Words[k] != sign {
						t.Errorf("P13.3: Spread(%d), only weight %d is %d: word %d is %x, %x", c, i, v, k, r.Sign.Words[k], r.Some.Words[k])
					}
				}
			}
		}
	}
}

// TestSpreadAsPatch: weights without a 0 lie just as a window sees a tensor of its own size that has them as elements.
func TestSpreadAsPatch(t *testing.T) {
	for _, c := range channels {
		x := someTensor(shapeOf(3, 2, c), c)
		l, _, e := patch.See(x.cube(), win(3, 2, 1, 1), 0)
		if e != api.OK || len(l) != 1 {
			t.Fatalf("P13.1: See of a window as great as the tensor: %d patches, %d", len(l), e)
		}
		r, e := patch.Spread(c, x.vals...)
		wantRow(t, "P13.3: Spread of a tensor's elements", r, e, l[0])
	}
}

// lost is what Lost is to tell, weight by weight.
func lost(w, seen []int8) int64 {
	sum := int64(0)
	for i, v := range w {
		if seen[i] == 0 {
			sum += int64(v)
		}
	}
	return sum
}

// flat is weights without gaps, as dot.Pack lays them: a row of any Len.
func flat(t *testing.T, w []int8) api.Row {
	t.Helper()
	r, e := dot.Pack(w...)
	if e != api.OK {
		t.Fatalf("P10.2: Pack of %d weights: %d", len(w), e)
	}
	return r
}

// threes are all lists of so many weights.
func threes(many int) [][]int8 {
	made := [][]int8{{}}
	for range many {
		var longer [][]int8
		for _, l := range made {
			for v := int8(-1); v <= 1; v++ {
				longer = append(longer, append(slices.Clone(l), v))
			}
		}
		made = longer
	}
	return made
}

// TestLostOfEachTwo: every two short rows.
func TestLostOfEachTwo(t *testing.T) {
	for many := range 5 {
		rows := threes(many)
		for _, a := range rows {
			for _, b := range rows {
				n, e := patch.Lost(flat(t, a), flat(t, b))
				wantSum(t, "P13.2: Lost", n, e, lost(a, b))
			}
		}
	}
}

// TestLostOfLong: rows of Lens at and beside a word's border.
func TestLostOfLong(t *testing.T) {
	for _, many := range []int{1, 62, 63, 64, 65, 66, 127, 128, 129, 191, 192, 193, 1000, 4096} {
		for seed := range 10 {
			a, b := someWeights(many, seed), someWeights(many, seed+100)
			n, e := patch.Lost(flat(t, a), flat(t, b))
			wantSum(t, "P13.2: Lost of long rows", n, e, lost(a, b))
			n, e = patch.Lost(flat(t, a), flat(t, make([]int8, many)))
			wantSum(t, "P13.2: Lost where nothing is seen", n, e, lost(a, make([]int8, many)))
			n, e = patch.Lost(flat(t, a), flat(t, slices.Repeat([]int8{int8(seed%2*2 - 1)}, many)))
			wantSum(t, "P13.2: Lost where all is seen", n, e, 0)
		}
	}
}

// TestLostOfMost: rows of 2^24 bits.
func TestLostOfMost(t *testing.T) {
	plus, none := flat(t, slices.Repeat([]int8{1}, most)), flat(t, make([]int8, most))
	minus := flat(t, slices.Repeat([]int8{-1}, most))
	n, e := patch.Lost(plus, none)
	wantSum(t, "P13.2: Lost of 2^24 pluses", n, e, most)
	n, e = patch.Lost(minus, none)
	wantSum(t, "P13.2: Lost of 2^24 minuses", n, e, -most)
	n, e = patch.Lost(minus, plus)
	wantSum(t, "P13.2: Lost of 2^24 minuses, all seen", n, e, 0)
	n, e = patch.Lost(none, none)
	wantSum(t, "P13.2: Lost of nothing", n, e, 0)
}

// sumAt is a convolution's sum, weight by weight.
func (x tensor) sumAt(w api.Window, border int, weights []int8, row, col int) int64 {
	sum := int64(0)
	for i, v := range x.seenAt(w, border, row, col) {
		sum += int64(weights[i]) * int64(v)
	}
	return sum
}

// counts fails unless both ways of P13.4 tell the sums that are made weight by weight.
func counts(t *testing.T, x tensor, w api.Window, b int, weights []int8) {
	t.Helper()
	r, e := patch.Spread(x.s.C, weights...)
	if e != api.OK {
		t.Fatalf("P13.3: Spread(%d, %d weights): %d", x.s.C, len(weights), e)
	}
	l, s, e := patch.See(x.cube(), w, b)
	bare, _, bareE := patch.See(x.cube(), w, 0)
	if e != api.OK || bareE != api.OK || len(l) != s.H*s.W || len(bare) != len(l) {
		t.Fatalf("P13.1: See of %v, %+v: %d and %d patches, %d, %d", x.s, w, len(l), len(bare), e, bareE)
	}
	for i := range l {
		is := x.sumAt(w, b, weights, i/s.W, i%s.W)
		n, e := dot.Some(r, l[i])
		wantSum(t, "P13.4: the sum with a patch", n, e, is)
		n, e = dot.Some(r, bare[i])
		gone, goneE := patch.Lost(r, bare[i])
		if goneE != api.OK {
			t.Errorf("P13.4: Lost = %d", goneE)
		}
		wantSum(t, "P13.4: the sum without the border, and what is lost", n+int64(b)*gone, e, is)
	}
}

// TestSums: sums of convolutions are counted.
func TestSums(t *testing.T) {
	next := chance(4)
	for _, c := range append([]int{2, 70, 193}, channels...) {
		for i := range 40 {
			x := someTensor(shapeOf(next(5)+4, next(5)+4, c), i)
			w := win(next(4)+1, next(4)+1, next(3)+1, next(3)+1, next(5), next(5), next(5), next(5))
			if rows, cols := given(x.s, w); rows*cols == 0 {
				t.Fatalf("P13.4: %+v does not fit %v", w, x.s)
			}
			for _, b := range borders {
				counts(t, x, w, b, someWeights(w.R*w.S*c, i))
				counts(t, x, w, b, someTensor(shapeOf(w.R, w.S, c), i).vals)
			}
		}
	}
}

// TestSumsAtEdges: all weights and elements alike, so that the sums are as great as they can be.
func TestSumsAtEdges(t *testing.T) {
	for _, c := range channels {
		for _, v := range []int8{-1, 1} {
			x := tensor{shapeOf(2, 3, c), slices.Repeat([]int8{v}, 6*c)}
			w := win(4, 4, 1, 1, 4, 4, 4, 4)
			for _, b := range borders {
				for _, weight := range []int8{-1, 0, 1} {
					counts(t, x, w, b, slices.Repeat([]int8{weight}, 16*c))
				}
			}
		}
	}
}
