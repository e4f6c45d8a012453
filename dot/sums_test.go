package dot_test

import (
	"math"
	"slices"
	"testing"

	"heddle/api"
	"heddle/dot"
)

// sum is that of weights times numbers, one by one.
func sum(w, x []int8) int64 {
	s := int64(0)
	for i, n := range w {
		s += int64(n) * int64(x[i])
	}
	return s
}

// signsOf is a row of pluses and minuses.
func signsOf(x []int8) api.Bits {
	set := make([]bool, len(x))
	for i, n := range x {
		set[i] = n > 0
	}
	return rowOf(set)
}

// planesOf is the planes of some numbers: bit p is what is left of a number, from 0 to 255, when it is halved p times.
func planesOf(x []int8) [8]api.Bits {
	var planes [8]api.Bits
	for p := range planes {
		set := make([]bool, len(x))
		for i, n := range x {
			set[i] = (int(n)+256)%256/int(math.Pow(2, float64(p)))%2 == 1
		}
		planes[p] = rowOf(set)
	}
	return planes
}

// noZero are the lists without a 0.
func noZero(lists [][]int8) [][]int8 {
	return slices.DeleteFunc(lists, func(l []int8) bool { return slices.Contains(l, 0) })
}

// numbers are lists of n numbers: all the same, at the ends of their range, one by one in turn, and some that look like chance.
func numbers(n int) [][]int8 {
	next := chance(n + 1000)
	made := make([][]int8, 8)
	for i := range n {
		for k, x := range []int8{0, 1, -1, 127, -128, int8(i%256 - 128), int8(255*(i%2) - 128), int8(next(256) - 128)} {
			made[k] = append(made[k], x)
		}
	}
	return made
}

func wantSum(t *testing.T, what string, n int64, e api.Errno, is int64) {
	t.Helper()
	if n != is || e != api.OK {
		t.Errorf("%s = %d, %d, not %d", what, n, e, is)
	}
}

func refusedSum(t *testing.T, what string, n int64, e, is api.Errno) {
	t.Helper()
	if n != 0 || e != is {
		t.Errorf("%s = %d, %d, not 0, %d", what, n, e, is)
	}
}

func TestSignsShort(t *testing.T) {
	for n := range 7 {
		xs := noZero(allWeights(n))
		for _, w := range allWeights(n) {
			r := packed(w)
			for _, x := range xs {
				s, e := dot.Signs(r, signsOf(x))
				wantSum(t, "P10.3: Signs of a short row", s, e, sum(w, x))
			}
		}
	}
}

func TestSomeShort(t *testing.T) {
	for n := range 6 {
		all := allWeights(n)
		for _, w := range all {
			r := packed(w)
			for _, x := range all {
				s, e := dot.Some(r, packed(x))
				wantSum(t, "P10.4: Some of a short row", s, e, sum(w, x))
			}
		}
	}
}

func TestNumbersShort(t *testing.T) {
	edges := []int8{-128, -127, -65, -64, -2, -1, 0, 1, 2, 63, 64, 126, 127}
	lists := [][]int8{nil}
	for n := range 4 {
		for _, x := range lists {
			p := planesOf(x)
			for _, w := range allWeights(n) {
				s, e := dot.Numbers(packed(w), p)
				wantSum(t, "P10.6: Numbers of a short row", s, e, sum(w, x))
			}
		}
		var longer [][]int8
		for _, head := range lists {
			for _, x := range edges {
				longer = append(longer, append(slices.Clone(head), x))
			}
		}
		lists = longer
	}
	for x := math.MinInt8; x <= math.MaxInt8; x++ {
		for w := int8(-1); w <= 1; w++ {
			s, e := dot.Numbers(packed([]int8{w}), planesOf([]int8{int8(x)}))
			wantSum(t, "P10.6: Numbers of one number", s, e, int64(w)*int64(x))
		}
	}
}

// TestLongSums: rows of many words, all of the same weight and none among them.
func TestLongSums(t *testing.T) {
	for _, n := range lens {
		for _, w := range weights(n) {
			r := packed(w)
			for _, x := range weights(n) {
				s, e := dot.Some(r, packed(x))
				wantSum(t, "P10.4: Some", s, e, sum(w, x))
			}
			for _, x := range noZero(weights(n)) {
				s, e := dot.Signs(r, signsOf(x))
				wantSum(t, "P10.3: Signs", s, e, sum(w, x))
			}
			for _, x := range numbers(n) {
				s, e := dot.Numbers(r, planesOf(x))
				wantSum(t, "P10.6: Numbers", s, e, sum(w, x))
			}
		}
	}
}

// TestOnePlace: a weight counts at its own place alone, wherever it is.
func TestOnePlace(t *testing.T) {
	const n = 130
	for at := range n {
		w, x, y := make([]int8, n), slices.Clone(weights(n)[2]), slices.Clone(numbers(n)[5])
		w[at], x[at], y[at] = 1, 1, 77
		r := packed(w)
		s, e := dot.Signs(r, signsOf(x))
		wantSum(t, "P10.3: Signs with one weight", s, e, 1)
		s, e = dot.Some(r, packed(x))
		wantSum(t, "P10.4: Some with one weight", s, e, 1)
		s, e = dot.Some(packed(x), r)
		wantSum(t, "P10.4: Some with one that counts", s, e, 1)
		s, e = dot.Numbers(r, planesOf(y))
		wantSum(t, "P10.6: Numbers with one weight", s, e, 77)
	}
}

// TestGreatestSums: the sums of the longest rows.
func TestGreatestSums(t *testing.T) {
	all := plain(most, slices.Repeat([]uint64{full}, most/64)...)
	plus, minus, none := api.Row{Sign: all, Some: all}, api.Row{Sign: zeros(most), Some: all}, api.Row{Sign: zeros(most), Some: zeros(most)}
	var least, greatest [8]api.Bits
	for p := range 7 {
		least[p], greatest[p] = zeros(most), all
	}
	least[7], greatest[7] = all, zeros(most)
	for _, c := range []struct {
		r         api.Row
		w         int64
		turned    api.Row
		what      string
		ownSquare int64
	}{{plus, 1, minus, "pluses", most}, {minus, -1, plus, "minuses", most}, {none, 0, none, "nothings", 0}} {
		s, e := dot.Signs(c.r, all)
		wantSum(t, "P10.3: Signs of 2^24 "+c.what, s, e, c.w*most)
		s, e = dot.Signs(c.r, zeros(most))
		wantSum(t, "P10.3: Signs of 2^24 "+c.what+" with minuses", s, e, -c.w*most)
		s, e = dot.Some(c.r, c.r)
		wantSum(t, "P10.4: Some of 2^24 "+c.what, s, e, c.ownSquare)
		s, e = dot.Some(c.r, c.turned)
		wantSum(t, "P10.4: Some of 2^24 "+c.what+" with them turned", s, e, -c.ownSquare)
		s, e = dot.Numbers(c.r, least)
		wantSum(t, "P10.6: Numbers of 2^24 "+c.what+" with -128", s, e, -128*c.w*most)
		s, e = dot.Numbers(c.r, greatest)
		wantSum(t, "P10.6: Numbers of 2^24 "+c.what+" with 127", s, e, 127*c.w*most)
	}
}

func TestSignsRefuses(t *testing.T) {
	good := pair(4, 9, 13)
	for _, b := range badRows() {
		for _, x := range []api.Bits{{}, plain(4, 1), plain(5, 1), plain(-1), plain(4, 16), plain(math.MaxInt)} {
			s, e := dot.Signs(b.r, x)
			refusedSum(t, "P10.3: Signs, the row: "+b.what, s, e, b.e)
		}
	}
	for _, f := range faulty() {
		r := good
		if f.b.Len >= 0 && f.b.Len <= most {
			r = api.Row{Sign: zeros(f.b.Len), Some: zeros(f.b.Len)}
		}
		s, e := dot.Signs(r, f.b)
		refusedSum(t, "P10.3: Signs, the signs: "+f.what, s, e, api.ErrBits)
	}
	for _, x := range []api.Bits{{}, plain(3, 1), plain(5, 1), plain(64, 1), plain(65, 1, 0)} {
		s, e := dot.Signs(good, x)
		refusedSum(t, "P10.3: Signs of another length", s, e, api.ErrBits)
	}
	s, e := dot.Signs(api.Row{}, plain(1, 1))
	refusedSum(t, "P10.3: Signs of no weights and a sign", s, e, api.ErrBits)
}

func TestSomeRefuses(t *testing.T) {
	good, kind, bits := pair(4, 9, 13), pair(4, 2, 1), pair(4, 16, 31)
	for _, b := range badRows() {
		for _, x := range []api.Row{{}, good, kind, bits, pair(5, 1, 1)} {
			s, e := dot.Some(b.r, x)
			refusedSum(t, "P10.4: Some, the first: "+b.what, s, e, b.e)
		}
		for _, r := range []api.Row{{}, good, pair(5, 1, 1)} {
			s, e := dot.Some(r, b.r)
			refusedSum(t, "P10.4: Some, the second: "+b.what, s, e, b.e)
		}
	}
	for _, x := range []api.Row{{}, pair(3, 1, 1), pair(5, 1, 1), pair(64, 1, 1), packed(make([]int8, 65))} {
		s, e := dot.Some(good, x)
		refusedSum(t, "P10.4: Some of two lengths", s, e, api.ErrBits)
		s, e = dot.Some(x, good)
		refusedSum(t, "P10.4: Some of two lengths, the other way round", s, e, api.ErrBits)
	}
	s, e := dot.Some(kind, bits)
	refusedSum(t, "P10.4: Some of two faults, the first of its kind", s, e, api.ErrKind)
	s, e = dot.Some(bits, kind)
	refusedSum(t, "P10.4: Some of two faults, the first of its bits", s, e, api.ErrBits)
	s, e = dot.Some(pair(5, 1, 1), kind)
	refusedSum(t, "P10.4: Some of two lengths, the second with a fault of its kind", s, e, api.ErrKind)
}

func TestPlanes(t *testing.T) {
	var every []int8
	for x := math.MinInt8; x <= math.MaxInt8; x++ {
		every = append(every, int8(x))
	}
	lists := [][]int8{nil, {}, every}
	for _, x := range every {
		lists = append(lists, []int8{x})
	}
	for _, n := range lens {
		lists = append(lists, numbers(n)...)
	}
	for _, x := range lists {
		p, e := dot.Planes(x...)
		wantPlanes(t, p, e, x)
	}
}

// wantPlanes fails unless these are the planes of x, and give each number again by what each plane weighs.
func wantPlanes(t *testing.T, planes [8]api.Bits, e api.Errno, x []int8) {
	t.Helper()
	for p, is := range planesOf(x) {
		if e != api.OK || !same(planes[p], is) {
			t.Errorf("P10.5: plane %d of %v = %v, %d", p, x, planes[p], e)
			return
		}
	}
	for i, n := range x {
		back, weighs := 0, 1
		for p, plane := range planes {
			if p == 7 {
				weighs = -128
			}
			back += weighs * int(plane.Words[i/64]>>(i%64)%2)
			weighs *= 2
		}
		if back != int(n) {
			t.Errorf("P10.5: the planes have %d where %d was", back, n)
		}
	}
}

func TestPlanesLong(t *testing.T) {
	x := make([]int8, most+1)
	x[0], x[most-1] = -128, 1
	planes, e := dot.Planes(x[:most]...)
	for p, plane := range planes {
		is := zeros(most)
		switch p {
		case 0:
			is.Words[most/64-1] = 1 << 63
		case 7:
			is.Words[0] = 1
		}
		if e != api.OK || !same(plane, is) {
			t.Errorf("P10.5: plane %d of 2^24 numbers: Len %d, %d", p, plane.Len, e)
		}
	}
	planes, e = dot.Planes(x...)
	for p, plane := range planes {
		if e != api.ErrLong || !same(plane, api.Bits{}) {
			t.Errorf("P10.5: plane %d of a number more than 2^24: Len %d, %d", p, plane.Len, e)
		}
	}
}

func TestNumbersRefuses(t *testing.T) {
	good, planes := pair(4, 9, 13), planesOf([]int8{5, 9, -7, -128})
	broken := planes
	broken[3] = plain(4, 16)
	for _, b := range badRows() {
		for _, p := range [][8]api.Bits{{}, planes, broken, planesOf([]int8{5})} {
			s, e := dot.Numbers(b.r, p)
			refusedSum(t, "P10.6: Numbers, the row: "+b.what, s, e, b.e)
		}
	}
	for at := range 8 {
		for _, f := range faulty() {
			r, p := good, planes
			if f.b.Len >= 0 && f.b.Len <= most {
				blank := zeros(f.b.Len)
				r = api.Row{Sign: blank, Some: blank}
				p = [8]api.Bits{blank, blank, blank, blank, blank, blank, blank, blank}
			}
			p[at] = f.b
			s, e := dot.Numbers(r, p)
			refusedSum(t, "P10.6: Numbers, a plane: "+f.what, s, e, api.ErrBits)
		}
		for _, b := range []api.Bits{{}, plain(3, 1), plain(5, 1), plain(64, 1), plain(65, 1, 0)} {
			p := planes
			p[at] = b
			s, e := dot.Numbers(good, p)
			refusedSum(t, "P10.6: Numbers, a plane of another length", s, e, api.ErrBits)
		}
	}
	for _, x := range [][]int8{nil, {5}, {1, 2, 3}, {1, 2, 3, 4, 5}, make([]int8, 64), make([]int8, 65)} {
		s, e := dot.Numbers(good, planesOf(x))
		refusedSum(t, "P10.6: Numbers, all planes of another length", s, e, api.ErrBits)
	}
	s, e := dot.Numbers(api.Row{}, [8]api.Bits{})
	wantSum(t, "P10.6: Numbers of nothing", s, e, 0)
}
