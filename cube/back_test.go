package cube_test

import (
	"slices"
	"testing"

	"heddle/api"
	"heddle/bits"
	"heddle/cube"
)

// made is a cube of some values that Pack answers.
func made(t *testing.T, s api.Shape, vals []int8) api.Cube {
	t.Helper()
	c, e := cube.Pack(s, vals)
	if e != api.OK {
		t.Fatalf("P12.2: Pack of %v = %d", s, e)
	}
	return c
}

func TestPackAndUnpack(t *testing.T) {
	for _, s := range shapes() {
		for _, vals := range tensors(s) {
			c := made(t, s, vals)
			l, e := cube.Unpack(c)
			if e != api.OK || !slices.Equal(l, signs(vals)) {
				t.Errorf("P12.7: Unpack of Pack, %v: %d values, %d", s, len(l), e)
			}
			back, e := cube.Pack(s, l)
			wantCube(t, "P12.7: Pack of Unpack", back, e, c)
		}
	}
}

func TestTurnAndFlat(t *testing.T) {
	for _, n := range append([]int{4095, 4096}, channels...) {
		for _, vals := range tensors(shapeOf(1, 1, n)) {
			c := made(t, shapeOf(1, 1, n), vals)
			flat, e := cube.Flat(c)
			wantRow(t, "P12.7: Flat of one place", flat, e, row(vals))
			back, e := cube.Turn(flat)
			wantCube(t, "P12.7: Turn of Flat", back, e, c)
			b, _ := bits.Pack(vals...)
			turned, e := cube.Turn(b)
			wantCube(t, "P12.7: Turn of a row", turned, e, c)
			flat, e = cube.Flat(turned)
			wantRow(t, "P12.7: Flat of Turn", flat, e, b)
		}
	}
}

// TestTurnOfMany: Turn of a cube's Flat is a cube of one place, with all elements as its channels.
func TestTurnOfMany(t *testing.T) {
	for _, s := range shapes() {
		n := s.H * s.W * s.C
		if n > api.MaxSide {
			continue
		}
		vals := tensors(s)[8]
		flat, _ := cube.Flat(made(t, s, vals))
		c, e := cube.Turn(flat)
		wantCube(t, "P12.6: Turn of Flat of many places", c, e, packed(shapeOf(1, 1, n), vals))
	}
}

// TestFlatAndRows: Flat is bits.Pack of Unpack, and bits.Join of all places.
func TestFlatAndRows(t *testing.T) {
	for _, s := range shapes() {
		for _, vals := range tensors(s) {
			c := made(t, s, vals)
			flat, e := cube.Flat(c)
			if e != api.OK || bits.Check(flat) != api.OK {
				t.Fatalf("P12.7: Flat of %v: %d, %d", s, e, bits.Check(flat))
			}
			l, _ := cube.Unpack(c)
			b, e := bits.Pack(l...)
			wantRow(t, "P12.7: bits.Pack of Unpack", b, e, flat)
			var all []api.Bits
			for y := range s.H {
				for x := range s.W {
					at, e := cube.At(c, y, x)
					if e != api.OK || bits.Check(at) != api.OK {
						t.Fatalf("P12.7: At of %v: %d, %d", s, e, bits.Check(at))
					}
					all = append(all, at)
				}
			}
			b, e = bits.Join(all...)
			wantRow(t, "P12.7: bits.Join of all places", b, e, flat)
		}
	}
}

// TestPlacesTurned: a place's channels make a cube of that place alone.
func TestPlacesTurned(t *testing.T) {
	s := shapeOf(3, 4, 70)
	vals := tensors(s)[9]
	c := made(t, s, vals)
	for y := range s.H {
		for x := range s.W {
			at, _ := cube.At(c, y, x)
			one, e := cube.Turn(at)
			from := (y*s.W + x) * s.C
			wantCube(t, "P12.6: Turn of At", one, e, made(t, shapeOf(1, 1, s.C), vals[from:from+s.C]))
		}
	}
}
