package cube_test

import (
	"math"
	"slices"
	"testing"

	"heddle/api"
	"heddle/cube"
)

// badShape is a shape that may not be, with its error.
type badShape struct {
	s api.Shape
	e api.Errno
}

func badShapes() []badShape {
	var bad []badShape
	for _, n := range []int{0, -1, 4097, 1 << 20, 1 << 32, math.MinInt, math.MaxInt} {
		for _, s := range []api.Shape{{H: n, W: 1, C: 1}, {H: 1, W: n, C: 1}, {H: 1, W: 1, C: n}, {H: n, W: n, C: n}, {H: 4096, W: n, C: 4096}} {
			bad = append(bad, badShape{s, api.ErrShape})
		}
	}
	// Sides of which the product wraps round to something small.
	bad = append(bad, badShape{shapeOf(1<<32, 1<<32, 1), api.ErrShape}, badShape{shapeOf(-1, -1, 3), api.ErrShape}, badShape{shapeOf(-1, 2, -3), api.ErrShape})
	for _, s := range []api.Shape{{H: 4096, W: 4096, C: 2}, {H: 4096, W: 2, C: 4096}, {H: 2, W: 4096, C: 4096}, {H: 4096, W: 4096, C: 4096}, {H: 257, W: 256, C: 256}, {H: 241, W: 17, C: 4096}} {
		bad = append(bad, badShape{s, api.ErrBig})
	}
	return bad
}

// badCube is a cube that Check refuses, with its error.
type badCube struct {
	what string
	c    api.Cube
	e    api.Errno
}

// badCubes are such of each kind, and with two faults at once.
func badCubes() []badCube {
	var bad []badCube
	for _, b := range badShapes() {
		for what, words := range map[string][]uint64{"no words": nil, "a word": {1}, "a full word": {full}, "some words": make([]uint64, 12)} {
			bad = append(bad, badCube{"a bad shape, " + what, cubeOf(b.s, words...), b.e})
		}
	}
	return slices.Concat(bad, otherWords(), bitsBehind())
}

// otherWords are cubes with another number of words than they should have.
func otherWords() []badCube {
	var bad []badCube
	add := func(what string, s api.Shape, n int, fill uint64) {
		bad = append(bad, badCube{what, cubeOf(s, slices.Repeat([]uint64{fill}, n)...), api.ErrBits})
	}
	for _, c := range []int{1, 63, 64, 65, 127, 128, 129} {
		for _, s := range []api.Shape{shapeOf(1, 1, c), shapeOf(2, 3, c), shapeOf(3, 2, c)} {
			n := s.H * s.W * ((c + 63) / 64)
			add("no words", s, 0, 0)
			add("a word too few", s, n-1, 0)
			add("a word too many", s, n+1, 0)
			add("a place too few", s, n-(c+63)/64, 0)
			add("a place too many", s, n+(c+63)/64, 0)
			add("twice as many words", s, 2*n, 0)
			add("a word too few, all bits", s, n-1, full)
			add("a word too many, all bits", s, n+1, full)
		}
	}
	add("no gaps", shapeOf(1, 2, 3), 1, 5)
	add("as many words as elements", shapeOf(2, 3, 5), 30, 0)
	add("the greatest, a word too few", shapeOf(4096, 1, 4096), most/64-1, 0)
	add("the greatest, a word too many", shapeOf(4096, 1, 4096), most/64+1, 0)
	return bad
}

// bitsBehind are cubes with a bit behind the channels of one place, the first, the last or one between.
func bitsBehind() []badCube {
	var bad []badCube
	for _, c := range []int{1, 63, 65, 127, 129, 4095} {
		wide := (c + 63) / 64
		for _, s := range []api.Shape{shapeOf(1, 1, c), shapeOf(1, 3, c), shapeOf(3, 1, c), shapeOf(2, 3, c)} {
			n := s.H * s.W
			for _, place := range []int{0, n / 2, n - 1} {
				for _, bit := range []int{c % 64, (c%64 + 63) / 2, 63} {
					made := cubeOf(s, make([]uint64, n*wide)...)
					made.Words[(place+1)*wide-1] = 1 << bit
					bad = append(bad, badCube{"a bit behind the channels", made, api.ErrBits})
				}
			}
			filled := cubeOf(s, slices.Repeat([]uint64{full}, n*wide)...)
			bad = append(bad, badCube{"all bits of all words", filled, api.ErrBits})
		}
	}
	return bad
}

// nothing fails unless a row was refused, with nothing beside the error.
func nothing(t *testing.T, what string, b api.Bits, e, is api.Errno) {
	t.Helper()
	if e != is || b.Len != 0 || len(b.Words) != 0 {
		t.Errorf("%s = Len %d, %d words, %d, not nothing and %d", what, b.Len, len(b.Words), e, is)
	}
}

// noCube fails unless a cube was refused, with nothing beside the error.
func noCube(t *testing.T, what string, c api.Cube, e, is api.Errno) {
	t.Helper()
	if e != is || c.Shape != (api.Shape{}) || len(c.Words) != 0 {
		t.Errorf("%s = %v, %d words, %d, not nothing and %d", what, c.Shape, len(c.Words), e, is)
	}
}

func TestRefusedCubes(t *testing.T) {
	for _, b := range badCubes() {
		if e := cube.Check(b.c); e != b.e {
			t.Errorf("P12.1: Check of %v, %s = %d, not %d", b.c.Shape, b.what, e, b.e)
		}
		if l, e := cube.Unpack(b.c); e != b.e || len(l) != 0 {
			t.Errorf("P12.3: Unpack of %v, %s = %d values, %d, not %d", b.c.Shape, b.what, len(l), e, b.e)
		}
		f, e := cube.Flat(b.c)
		nothing(t, "P12.5: Flat, "+b.what, f, e, b.e)
		for _, at := range [][2]int{{0, 0}, {b.c.Shape.H - 1, b.c.Shape.W - 1}, {-1, 0}, {0, -1}, {1 << 20, 0}, {math.MinInt, math.MaxInt}} {
			r, e := cube.At(b.c, at[0], at[1])
			nothing(t, "P12.4: At, "+b.what, r, e, b.e)
		}
	}
}

// TestFullWords: where the channels end with a word, no bit lies behind them.
func TestFullWords(t *testing.T) {
	for _, c := range []int{64, 128, 192, 4096} {
		for _, s := range []api.Shape{shapeOf(1, 1, c), shapeOf(2, 3, c)} {
			made := cubeOf(s, slices.Repeat([]uint64{full}, s.H*s.W*c/64)...)
			if e := cube.Check(made); e != api.OK {
				t.Errorf("P12.1: Check of %v with all bits = %d", s, e)
			}
		}
	}
	// Behind the channels means behind the place's last word: the words ahead of it may be full.
	if e := cube.Check(cubeOf(shapeOf(1, 2, 65), full, 1, full, 1)); e != api.OK {
		t.Errorf("P12.1: Check of 1 2 65 with all channels = %d", e)
	}
	if e := cube.Check(cubeOf(shapeOf(1, 2, 65), 1, full, 1, full)); e != api.ErrBits {
		t.Errorf("P12.1: Check of 1 2 65 with words out of their order = %d", e)
	}
}

func TestPackRefuses(t *testing.T) {
	for _, b := range badShapes() {
		for _, n := range []int{0, 1, 2, 12} {
			c, e := cube.Pack(b.s, make([]int8, n))
			noCube(t, "P12.2: Pack of a bad shape", c, e, b.e)
		}
	}
	for _, s := range shapes() {
		n := s.H * s.W * s.C
		for _, many := range []int{0, n - 1, n + 1, 2 * n, s.H * s.W * ((s.C + 63) / 64) * 64} {
			if many == n {
				continue
			}
			c, e := cube.Pack(s, slices.Repeat([]int8{1}, many))
			noCube(t, "P12.2: Pack of another number of values", c, e, api.ErrFit)
		}
	}
	vals := make([]int8, most+1)
	for _, s := range greatest {
		c, e := cube.Pack(s, vals)
		noCube(t, "P12.2: Pack of one value more than 2^24", c, e, api.ErrFit)
		c, e = cube.Pack(s, vals[:most-1])
		noCube(t, "P12.2: Pack of one value less than 2^24", c, e, api.ErrFit)
	}
	c, e := cube.Pack(shapeOf(4096, 4096, 2), vals)
	noCube(t, "P12.2: Pack of too many elements", c, e, api.ErrBig)
	c, e = cube.Pack(shapeOf(1, 1, 3), nil)
	noCube(t, "P12.2: Pack of no values, nil", c, e, api.ErrFit)
	c, e = cube.Pack(shapeOf(1, 1, 3), []int8{})
	noCube(t, "P12.2: Pack of no values, empty", c, e, api.ErrFit)
}

func TestAtBeside(t *testing.T) {
	for _, s := range []api.Shape{shapeOf(1, 1, 1), shapeOf(2, 3, 65), shapeOf(3, 2, 64), shapeOf(1, 5, 3), shapeOf(5, 1, 3)} {
		c := packed(s, tensors(s)[8])
		last := [2]int{s.H - 1, s.W - 1}
		for _, at := range [][2]int{
			{s.H, 0}, {0, s.W}, {s.H, s.W}, {s.H, last[1]}, {last[0], s.W}, {-1, 0}, {0, -1}, {-1, -1}, {-1, last[1]}, {last[0], -1}, {-1, s.W}, {s.H, -1},
			{math.MinInt, 0}, {0, math.MinInt}, {math.MaxInt, 0}, {0, math.MaxInt}, {math.MinInt, math.MinInt}, {math.MaxInt, math.MaxInt}, {math.MinInt, math.MaxInt}, {math.MaxInt, math.MinInt},
			{1, -s.W}, {-1, 2 * s.W}, {1 << 62, -(1 << 62)},
		} {
			b, e := cube.At(c, at[0], at[1])
			nothing(t, "P12.4: At beside the cube", b, e, api.ErrArg)
		}
		for _, at := range [][2]int{{0, 0}, last, {0, last[1]}, {last[0], 0}} {
			if b, e := cube.At(c, at[0], at[1]); e != api.OK || b.Len != s.C {
				t.Errorf("P12.4: At of %v at its edge %v: Len %d, %d", s, at, b.Len, e)
			}
		}
	}
}

func TestTurnRefuses(t *testing.T) {
	for _, b := range []struct {
		what string
		b    api.Bits
		e    api.Errno
	}{
		{"no bits", rowOf(0), api.ErrShape},
		{"no bits, nil", api.Bits{}, api.ErrShape},
		{"no bits, an empty list", api.Bits{Words: []uint64{}}, api.ErrShape},
		{"4097 bits", rowOf(4097, make([]uint64, 65)...), api.ErrShape},
		{"4160 bits", rowOf(4160, slices.Repeat([]uint64{full}, 65)...), api.ErrShape},
		{"the most bits", rowOf(most, make([]uint64, most/64)...), api.ErrShape},
		{"one more than the most bits", rowOf(most+1, make([]uint64, most/64+1)...), api.ErrLong},
		{"the greatest Len", rowOf(math.MaxInt, 1), api.ErrLong},
		{"the greatest Len, no words", rowOf(math.MaxInt), api.ErrLong},
		{"below 0", rowOf(-1), api.ErrArg},
		{"below 0, with a word", rowOf(-1, 0), api.ErrArg},
		{"the least", rowOf(math.MinInt, full), api.ErrArg},
		{"no bits, with a word", rowOf(0, 0), api.ErrBits},
		{"no bits, with a bit", rowOf(0, 1), api.ErrBits},
		{"1 bit, no word", rowOf(1), api.ErrBits},
		{"1 bit, two words", rowOf(1, 1, 0), api.ErrBits},
		{"1 bit, one behind it", rowOf(1, 2), api.ErrBits},
		{"3 bits, the word 8", rowOf(3, 8), api.ErrBits},
		{"63 bits, one behind them", rowOf(63, 1<<63), api.ErrBits},
		{"64 bits, no word", rowOf(64), api.ErrBits},
		{"64 bits, two words", rowOf(64, 1, 0), api.ErrBits},
		{"65 bits, one word", rowOf(65, full), api.ErrBits},
		{"65 bits, one behind them", rowOf(65, full, 2), api.ErrBits},
		{"4096 bits, a word too few", rowOf(4096, make([]uint64, 63)...), api.ErrBits},
		{"4096 bits, a word too many", rowOf(4096, make([]uint64, 65)...), api.ErrBits},
		{"4097 bits, a word too few", rowOf(4097, make([]uint64, 64)...), api.ErrBits},
		{"4097 bits, a word too many", rowOf(4097, make([]uint64, 66)...), api.ErrBits},
		{"4097 bits, one behind them", rowOf(4097, append(make([]uint64, 64), 2)...), api.ErrBits},
	} {
		c, e := cube.Turn(b.b)
		noCube(t, "P12.6: Turn of "+b.what, c, e, b.e)
	}
}
