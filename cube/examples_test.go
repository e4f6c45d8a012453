package cube_test

import (
	"slices"
	"testing"

	"heddle/api"
	"heddle/cube"
)

// TestExamples: the chapter's, one by one.
func TestExamples(t *testing.T) {
	s := shapeOf(1, 2, 3)
	first, e := cube.Pack(s, []int8{1, -1, 1, 0, 5, -7})
	wantCube(t, "P12.2: Pack(1 2 3; 1 -1 1 0 5 -7)", first, e, cubeOf(s, 5, 2))
	if l, e := cube.Unpack(first); e != api.OK || !slices.Equal(l, []int8{1, -1, 1, -1, 1, -1}) {
		t.Errorf("P12.3: Unpack = %v, %d", l, e)
	}
	b, e := cube.At(first, 0, 1)
	wantRow(t, "P12.4: At 0 1", b, e, rowOf(3, 2))
	b, e = cube.Flat(first)
	wantRow(t, "P12.5: Flat", b, e, rowOf(6, 0x15))
	c, e := cube.Pack(shapeOf(1, 1, 65), slices.Repeat([]int8{1}, 65))
	wantCube(t, "P12.2: Pack(1 1 65; 65 times 1)", c, e, cubeOf(shapeOf(1, 1, 65), full, 1))
	c, e = cube.Pack(s, []int8{1, -1})
	noCube(t, "P12.2: Pack(1 2 3; 1 -1)", c, e, api.ErrFit)
	c, e = cube.Pack(shapeOf(1, 0, 3), nil)
	noCube(t, "P12.2: Pack(1 0 3; none)", c, e, api.ErrShape)
	for _, words := range [][]uint64{{5}, {5, 8}} {
		if e := cube.Check(cubeOf(s, words...)); e != api.ErrBits {
			t.Errorf("P12.1: Check(1 2 3; %v) = %d", words, e)
		}
	}
	for _, at := range [][2]int{{0, 2}, {1, 0}, {-1, 0}} {
		b, e := cube.At(first, at[0], at[1])
		nothing(t, "P12.4: At beside the cube", b, e, api.ErrArg)
	}
}

// TestExamplesOfTurn: the chapter's.
func TestExamplesOfTurn(t *testing.T) {
	c, e := cube.Turn(rowOf(3, 5))
	wantCube(t, "P12.6: Turn of 3 bits, the word 5", c, e, cubeOf(shapeOf(1, 1, 3), 5))
	c, e = cube.Turn(rowOf(0))
	noCube(t, "P12.6: Turn of no bits", c, e, api.ErrShape)
	c, e = cube.Turn(rowOf(4097, make([]uint64, 65)...))
	noCube(t, "P12.6: Turn of 4097 bits", c, e, api.ErrShape)
	c, e = cube.Turn(rowOf(3, 8))
	noCube(t, "P12.6: Turn of 3 bits, the word 8", c, e, api.ErrBits)
}
