package cube_test

import (
	"math"
	"slices"
	"testing"

	"heddle/api"
	"heddle/cube"
)

const (
	full = math.MaxUint64
	most = api.MaxElems
)

// channels are at and beside a word's border, and others.
var channels = []int{1, 2, 3, 31, 62, 63, 64, 65, 66, 100, 127, 128, 129, 191, 192, 193, 300}

func shapeOf(h, w, c int) api.Shape { return api.Shape{H: h, W: w, C: c} }

func cubeOf(s api.Shape, words ...uint64) api.Cube { return api.Cube{Shape: s, Words: words} }

func rowOf(n int, words ...uint64) api.Bits { return api.Bits{Len: n, Words: words} }

func sameCube(a, b api.Cube) bool { return a.Shape == b.Shape && slices.Equal(a.Words, b.Words) }

func sameRow(a, b api.Bits) bool { return a.Len == b.Len && slices.Equal(a.Words, b.Words) }

// chance gives numbers that look like chance, the same ones each time.
func chance(seed int) func(below int) int {
	state := uint64(seed)*0x9e3779b97f4a7c15 + 1
	return func(below int) int {
		state = state*6364136223846793005 + 1442695040888963407
		return int(state >> 33 % uint64(below))
	}
}

// shapes are small ones, of one place and of many, with channels at and beside a word's border.
func shapes() []api.Shape {
	var made []api.Shape
	for _, c := range channels {
		for _, s := range [][2]int{{1, 1}, {1, 2}, {2, 1}, {1, 5}, {3, 1}, {2, 3}, {3, 2}, {4, 4}, {5, 7}} {
			made = append(made, shapeOf(s[0], s[1], c))
		}
	}
	return append(made, shapeOf(1, 1, 4096), shapeOf(2, 3, 4095), shapeOf(1, 70, 1), shapeOf(70, 1, 1), shapeOf(9, 15, 1))
}

// tensors are a shape's values: all of one kind, one by one in turn, only at an end set, only there not, and some that look like chance.
func tensors(s api.Shape) [][]int8 {
	n := s.H * s.W * s.C
	next := chance(n)
	made := make([][]int8, 10)
	for i := range n {
		first, last := int8(-1), int8(1)
		if i == 0 {
			first = 1
		}
		if i == n-1 {
			last = -1
		}
		for k, v := range []int8{0, 1, -1, 127, -128, int8(i%3 - 1), first, last, int8(next(256) - 128), int8(next(3) - 1)} {
			made[k] = append(made[k], v)
		}
	}
	return made
}

// packed is the cube of some values as the document tells it, element by element: places in their order, each with words of its own.
func packed(s api.Shape, vals []int8) api.Cube {
	wide := s.C / 64
	if s.C%64 > 0 {
		wide++
	}
	c := cubeOf(s, make([]uint64, s.H*s.W*wide)...)
	for y := range s.H {
		for x := range s.W {
			for ch := range s.C {
				if vals[(y*s.W+x)*s.C+ch] > 0 {
					c.Words[(y*s.W+x)*wide+ch/64] += uint64(math.Pow(2, float64(ch%64)))
				}
			}
		}
	}
	return c
}

// row is the row of some values as the document tells it: bit i is bit i % 64 of the word i / 64.
func row(vals []int8) api.Bits {
	b := rowOf(len(vals))
	for i, v := range vals {
		if i%64 == 0 {
			b.Words = append(b.Words, 0)
		}
		if v > 0 {
			b.Words[i/64] += uint64(math.Pow(2, float64(i%64)))
		}
	}
	return b
}

// signs are values, those above 0 as 1, the others as -1.
func signs(vals []int8) []int8 {
	made := make([]int8, len(vals))
	for i, v := range vals {
		if v > 0 {
			made[i] = 1
		} else {
			made[i] = -1
		}
	}
	return made
}

// wantCube fails unless a cube was answered, just that one.
func wantCube(t *testing.T, what string, c api.Cube, e api.Errno, is api.Cube) {
	t.Helper()
	if e != api.OK || !sameCube(c, is) {
		t.Errorf("%s = %v of %d words, %d, not %v of %d words", what, c.Shape, len(c.Words), e, is.Shape, len(is.Words))
	}
}

// wantRow fails unless a row was answered, just that one.
func wantRow(t *testing.T, what string, b api.Bits, e api.Errno, is api.Bits) {
	t.Helper()
	if e != api.OK || !sameRow(b, is) {
		t.Errorf("%s = Len %d, %d words, %d, not Len %d, %d words", what, b.Len, len(b.Words), e, is.Len, len(is.Words))
	}
}

func TestPack(t *testing.T) {
	for _, s := range shapes() {
		for _, vals := range tensors(s) {
			c, e := cube.Pack(s, vals)
			wantCube(t, "P12.2: Pack", c, e, packed(s, vals))
		}
	}
}

// TestPackEachValue: just those above 0 are set, whatever they are.
func TestPackEachValue(t *testing.T) {
	for v := math.MinInt8; v <= math.MaxInt8; v++ {
		is := uint64(0)
		if v > 0 {
			is = 1
		}
		c, e := cube.Pack(shapeOf(1, 1, 1), []int8{int8(v)})
		wantCube(t, "P12.2: Pack of one value", c, e, cubeOf(shapeOf(1, 1, 1), is))
		c, e = cube.Pack(shapeOf(1, 2, 65), append(make([]int8, 129), int8(v)))
		wantCube(t, "P12.2: Pack of one value at the end", c, e, cubeOf(shapeOf(1, 2, 65), 0, 0, 0, is))
	}
}

// TestPackEachElement: each element has a bit of its own, where the document says.
func TestPackEachElement(t *testing.T) {
	for _, s := range []api.Shape{shapeOf(2, 3, 5), shapeOf(3, 2, 65), shapeOf(2, 2, 64), shapeOf(1, 3, 129)} {
		wide := (s.C + 63) / 64
		n := s.H * s.W * s.C
		for i := range n {
			vals := make([]int8, n)
			vals[i] = 1
			place, ch := i/s.C, i%s.C
			c, e := cube.Pack(s, vals)
			if e != api.OK || len(c.Words) != s.H*s.W*wide {
				t.Fatalf("P12.2: Pack of %v: %d words, %d", s, len(c.Words), e)
			}
			for k, word := range c.Words {
				if k == place*wide+ch/64 && word != 1<<(ch%64) || k != place*wide+ch/64 && word != 0 {
					t.Errorf("P12.2: Pack of %v, only element %d is set: word %d is %x", s, i, k, word)
				}
			}
		}
	}
}

func TestUnpack(t *testing.T) {
	for _, s := range shapes() {
		for _, vals := range tensors(s) {
			l, e := cube.Unpack(packed(s, vals))
			if e != api.OK || !slices.Equal(l, signs(vals)) {
				t.Errorf("P12.3: Unpack of %v: %d values, %d", s, len(l), e)
			}
		}
	}
}

func TestAt(t *testing.T) {
	for _, s := range shapes() {
		for _, vals := range tensors(s) {
			c := packed(s, vals)
			for y := range s.H {
				for x := range s.W {
					from := (y*s.W + x) * s.C
					b, e := cube.At(c, y, x)
					wantRow(t, "P12.4: At", b, e, row(vals[from:from+s.C]))
				}
			}
		}
	}
}

func TestFlat(t *testing.T) {
	for _, s := range shapes() {
		for _, vals := range tensors(s) {
			b, e := cube.Flat(packed(s, vals))
			wantRow(t, "P12.5: Flat", b, e, row(vals))
		}
	}
}

// TestFlatEachElement: places that meet within a word leave one another's bits alone.
func TestFlatEachElement(t *testing.T) {
	for _, s := range []api.Shape{shapeOf(3, 7, 5), shapeOf(2, 3, 65), shapeOf(3, 1, 63), shapeOf(1, 3, 100), shapeOf(2, 2, 64)} {
		n := s.H * s.W * s.C
		for i := range n {
			one, others := make([]int8, n), slices.Repeat([]int8{1}, n)
			one[i], others[i] = 1, -1
			b, e := cube.Flat(packed(s, one))
			wantRow(t, "P12.5: Flat, one bit is set", b, e, row(one))
			b, e = cube.Flat(packed(s, others))
			wantRow(t, "P12.5: Flat, one bit is not set", b, e, row(others))
		}
	}
}

func TestTurn(t *testing.T) {
	for _, n := range append([]int{4032, 4095, 4096}, channels...) {
		for _, vals := range tensors(shapeOf(1, 1, n)) {
			b := row(vals)
			c, e := cube.Turn(b)
			wantCube(t, "P12.6: Turn", c, e, cubeOf(shapeOf(1, 1, n), b.Words...))
		}
	}
}

func TestCheckTakes(t *testing.T) {
	for _, s := range shapes() {
		for _, vals := range tensors(s) {
			if e := cube.Check(packed(s, vals)); e != api.OK {
				t.Errorf("P12.1: Check of a cube of %v that may be = %d", s, e)
			}
		}
	}
}

// greatest are shapes with 2^24 elements.
var greatest = []api.Shape{{H: 4096, W: 4096, C: 1}, {H: 4096, W: 1, C: 4096}, {H: 1, W: 4096, C: 4096}, {H: 16, W: 4096, C: 256}}

// TestGreatest: the greatest tensors, with the first element set, the last one, and one between.
func TestGreatest(t *testing.T) {
	vals, is := make([]int8, most), slices.Repeat([]int8{-1}, most)
	flat := make([]uint64, most/64)
	for _, i := range []int{0, most/2 + 70, most - 1} {
		vals[i], is[i] = 5, 1
		flat[i/64] |= 1 << (i % 64)
	}
	for _, s := range greatest {
		c, e := cube.Pack(s, vals)
		if e != api.OK || c.Shape != s || len(c.Words) != s.H*s.W*((s.C+63)/64) {
			t.Fatalf("P12.2: Pack of %v: %v, %d words, %d", s, c.Shape, len(c.Words), e)
		}
		if e := cube.Check(c); e != api.OK {
			t.Errorf("P12.1: Check of %v: %d", s, e)
		}
		if l, e := cube.Unpack(c); e != api.OK || !slices.Equal(l, is) {
			t.Errorf("P12.3: Unpack of %v: %d values, %d", s, len(l), e)
		}
		b, e := cube.Flat(c)
		wantRow(t, "P12.5: Flat of a greatest cube", b, e, rowOf(most, flat...))
		b, e = cube.At(c, s.H-1, s.W-1)
		wantRow(t, "P12.4: At of a greatest cube", b, e, row(vals[most-s.C:]))
		b, e = cube.At(c, 0, 0)
		wantRow(t, "P12.4: At of a greatest cube", b, e, row(vals[:s.C]))
	}
}
