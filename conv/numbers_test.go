package conv_test

import (
	"math"
	"slices"
	"strconv"
	"testing"

	"heddle/api"
	"heddle/conv"
)

// counts fails unless Numbers answers what the document tells.
func counts(t *testing.T, x tensor, w api.Window, border int, weights [][]int8) {
	t.Helper()
	is, shape := x.sums(w, border, weights)
	l, s, e := conv.Numbers(x.s, x.vals, w, border, laidAll(x.s.C, weights))
	if len(is) == 0 {
		refused(t, told("Numbers", x.s, w, border), l, s, e, api.ErrFit)
		return
	}
	want(t, told("P14.4: Numbers", x.s, w, border), l, s, e, is, shape)
}

// TestEachNumber: each from -128 to 127 alone, beside the border, and among all others.
func TestEachNumber(t *testing.T) {
	var all []int8
	for n := math.MinInt8; n <= math.MaxInt8; n++ {
		all = append(all, int8(n))
	}
	for _, b := range borders {
		for _, n := range all {
			x := tensor{shapeOf(1, 1, 1), []int8{n}}
			counts(t, x, win(1, 1, 1, 1), b, [][]int8{{1}, {-1}, {0}})
			counts(t, x, win(2, 2, 1, 1, 1, 1, 1, 1), b, [][]int8{{1, 1, 1, 1}, {1, -1, 0, -1}, {-1, -1, -1, 1}})
			counts(t, tensor{shapeOf(2, 1, 2), []int8{n, -128, 127, n}}, win(1, 2, 1, 1, 1, 0, 0, 1), b, [][]int8{{1, -1, -1, 0}, {-1, 1, 1, 1}})
		}
		for _, s := range []api.Shape{shapeOf(16, 16, 1), shapeOf(1, 1, 256), shapeOf(4, 1, 64), shapeOf(1, 256, 1), shapeOf(2, 64, 2)} {
			for _, w := range []api.Window{win(1, 1, 1, 1), win(3, 3, 1, 1, 2, 2, 2, 2), win(2, 1, 3, 2, 1, 0, 1, 3)} {
				counts(t, tensor{s, all}, w, b, weightsFor(w, s.C, 3, s.W))
			}
		}
	}
}

// TestNumbersEachSmall: every small shape, window, step and some borders.
func TestNumbersEachSmall(t *testing.T) {
	t.Parallel()
	for _, c := range channels {
		t.Run(strconv.Itoa(c)+" channels", func(t *testing.T) {
			t.Parallel()
			for n := range 9 {
				x := someNumbers(shapeOf(n/3+1, n%3+1, c), n+c)
				for k := range 9 * 4 * 16 {
					w := win(k%3+1, k/3%3+1, k/9%2+1, k/18%2+1, k/36%2, k/72%2, k/144%2, k/288)
					counts(t, x, w, borders[(k+n)%3], weightsFor(w, c, k%2+1, k))
				}
			}
		})
	}
}

// TestNumbersMany: greater shapes, windows, steps and borders, picked as by chance.
func TestNumbersMany(t *testing.T) {
	t.Parallel()
	next := chance(41)
	for i := range 1000 {
		c := []int{1, 2, 5, 63, 64, 65, 70, 128, 129, 193}[next(10)]
		x := someNumbers(shapeOf(next(7)+1, next(7)+1, c), i)
		w := win(next(6)+1, next(6)+1, next(5)+1, next(5)+1, next(7), next(7), next(7), next(7))
		counts(t, x, w, borders[next(3)], weightsFor(w, c, next(4)+1, i))
	}
}

// TestNumbersOnlyBorder: windows that see nothing of the numbers give the border times all weights, at every side.
func TestNumbersOnlyBorder(t *testing.T) {
	for _, c := range channels {
		x := evenly(shapeOf(2, 2, c), -128)
		for _, edges := range [][4]int{{2, 0, 0, 0}, {0, 2, 0, 0}, {0, 0, 2, 0}, {0, 0, 0, 2}, {3, 4, 4, 3}, {14, 14, 14, 14}} {
			w := win(2, 2, 1, 1, edges[:]...)
			weights := weightsFor(w, c, 3, c)
			for _, b := range borders {
				counts(t, x, w, b, weights)
				l, s, _ := conv.Numbers(x.s, x.vals, w, b, laidAll(c, weights))
				borderAlone(t, told("Numbers", x.s, w, b), l, s, w, b, weights)
			}
		}
	}
}

// TestNumbersAsCube: pluses and minuses as numbers have the sums of their cube by each way, at every border.
func TestNumbersAsCube(t *testing.T) {
	next := chance(4)
	for i := range 300 {
		c := []int{1, 3, 63, 64, 65, 128, 129}[next(7)]
		x := someSigns(shapeOf(next(6)+1, next(6)+1, c), i)
		w := win(next(4)+1, next(4)+1, next(3)+1, next(3)+1, next(5), next(5), next(5), next(5))
		rows := laidAll(c, weightsFor(w, c, next(3)+1, i))
		for _, b := range borders {
			l, s, e := conv.Numbers(x.s, x.vals, w, b, rows)
			for _, f := range ways {
				is, shape, err := f.call(x.cube(), w, b, rows)
				if e != err || s != shape || !slices.Equal(l, is) {
					t.Errorf("P14.4: %s and Numbers: %d and %d sums, %d, %d", told(f.what, x.s, w, b), len(is), len(l), err, e)
				}
			}
		}
	}
}

// opposite are the weights turned.
func opposite(weights [][]int8) [][]int8 {
	made := make([][]int8, len(weights))
	for k, l := range weights {
		for _, n := range l {
			made[k] = append(made[k], -n)
		}
	}
	return made
}

// TestTurned: a row with all its weights turned has the opposite sums.
func TestTurned(t *testing.T) {
	for i, c := range channels {
		x, numbers := someSigns(shapeOf(4, 3, c), c), someNumbers(shapeOf(4, 3, c), c)
		w := win(2, 3, 1, 2, i%3, 1, 2, i%2)
		weights := weightsFor(w, c, 4, c)
		for _, b := range borders {
			for _, f := range allCalls() {
				turned(t, f, x, w, b, weights)
			}
			turned(t, allCalls()[0], numbers, w, b, weights)
		}
	}
}

func turned(t *testing.T, f call, x tensor, w api.Window, b int, weights [][]int8) {
	t.Helper()
	l, _, e := f.of(x, w, b, laidAll(x.s.C, weights))
	m, _, err := f.of(x, w, b, laidAll(x.s.C, opposite(weights)))
	if e != api.OK || err != api.OK || len(l) != len(m) || len(l) == 0 {
		t.Fatalf("P14.2: %s: %d, %d", told(f.what, x.s, w, b), e, err)
	}
	for k := range l {
		if l[k] != -m[k] {
			t.Errorf("P14.2: %s: the sum %d is %d, with the weights turned %d", told(f.what, x.s, w, b), k, l[k], m[k])
		}
	}
}

// TestTogether: with a border of 0 the sums over x + y are those over x and those over y.
func TestTogether(t *testing.T) {
	for i, c := range channels {
		s, w := shapeOf(3, 4, c), win(3, 2, 1, 1, i%3, 2, 1, i%2)
		x, both := someNumbers(s, i), someNumbers(s, i+99)
		y := evenly(s, 0)
		for k := range x.vals {
			x.vals[k] /= 2
			y.vals[k] = both.vals[k] / 2
			both.vals[k] = x.vals[k] + y.vals[k]
		}
		rows := laidAll(c, weightsFor(w, c, 3, c))
		a, _, _ := conv.Numbers(s, x.vals, w, 0, rows)
		b, _, _ := conv.Numbers(s, y.vals, w, 0, rows)
		l, _, e := conv.Numbers(s, both.vals, w, 0, rows)
		if e != api.OK || len(l) == 0 || len(a) != len(l) || len(b) != len(l) {
			t.Fatalf("P14.4: %s: %d", told("Numbers", s, w, 0), e)
		}
		for k := range l {
			if l[k] != a[k]+b[k] {
				t.Errorf("P14.4: %s: the sum %d is %d, not %d and %d", told("Numbers", s, w, 0), k, l[k], a[k], b[k])
			}
		}
	}
}

// TestOnePlace: a window of 1, 1 without borders and with steps of 1 gives at each place the sums of each row's weights times the place's channels.
func TestOnePlace(t *testing.T) {
	w := win(1, 1, 1, 1)
	for _, c := range channels {
		x := someSigns(shapeOf(3, 4, c), c)
		weights := weightsFor(w, c, 3, c)
		for _, f := range allCalls() {
			l, s, e := f.of(x, w, 1, laidAll(c, weights))
			if e != api.OK || s != shapeOf(3, 4, 3) {
				t.Fatalf("P14.2: %s: %v, %d", told(f.what, x.s, w, 1), s, e)
			}
			for i, n := range l {
				sum := int64(0)
				for k, weight := range weights[i%3] {
					sum += int64(weight) * int64(x.vals[i/3*c+k])
				}
				if n != sum {
					t.Errorf("P14.2: %s: the sum %d is %d, not %d", told(f.what, x.s, w, 1), i, n, sum)
				}
			}
		}
	}
}

// TestReach: no sum is above the number of its weights that are not 0, of Numbers 128 times that.
func TestReach(t *testing.T) {
	for _, c := range channels {
		w := win(2, 2, 1, 1, 1, 1, 1, 1)
		weights := weightsFor(w, c, 3, c)
		for i := range 3 {
			x := []tensor{someSigns(shapeOf(3, 3, c), i), evenly(shapeOf(3, 3, c), 1), evenly(shapeOf(3, 3, c), -1)}[i]
			for _, f := range allCalls() {
				within(t, f, x, w, weights, 1)
			}
			numbers := []tensor{someNumbers(shapeOf(3, 3, c), i), evenly(shapeOf(3, 3, c), -128), evenly(shapeOf(3, 3, c), 127)}[i]
			within(t, allCalls()[0], numbers, w, weights, 128)
		}
	}
}

func within(t *testing.T, f call, x tensor, w api.Window, weights [][]int8, times int64) {
	t.Helper()
	for _, b := range borders {
		l, _, e := f.of(x, w, b, laidAll(x.s.C, weights))
		if e != api.OK || len(l) == 0 {
			t.Fatalf("P14.2: %s: %d", told(f.what, x.s, w, b), e)
		}
		for i, n := range l {
			reach := int64(0)
			for _, weight := range weights[i%len(weights)] {
				reach += int64(weight * weight)
			}
			if n > times*reach || n < -times*reach {
				t.Errorf("P14.2: %s: the sum %d is %d, of %d weights", told(f.what, x.s, w, b), i, n, reach)
			}
		}
	}
}
