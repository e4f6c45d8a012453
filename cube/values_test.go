package cube

import (
	"slices"
	"testing"

	"heddle/api"
)

// wider is a list of values in another type.
func wider[T small](vals []int8) []T {
	made := make([]T, len(vals))
	for i, v := range vals {
		made[i] = T(v)
	}
	return made
}

// alike fails unless values of that type are packed and unpacked as those of 8 bits are.
func alike[T small](t *testing.T, what string, vals []int8) {
	t.Helper()
	n := wordsFor(len(vals))
	is, words := make([]uint64, n), make([]uint64, n)
	pack(is, vals)
	pack(words, wider[T](vals))
	if !slices.Equal(words, is) {
		t.Errorf("P12.2: %d values of %s are packed as %x, not %x", len(vals), what, words, is)
	}
	isBack, back := make([]int8, len(vals)), make([]T, len(vals))
	unpack(isBack, is)
	unpack(back, is)
	if !slices.Equal(back, wider[T](isBack)) {
		t.Errorf("P12.3: %d values of %s are unpacked as %v, not %v", len(vals), what, back, isBack)
	}
}

type own int8

// TestValuesOfOtherTypes: values of every small whole type are packed and unpacked alike.
func TestValuesOfOtherTypes(t *testing.T) {
	for _, n := range []int{0, 1, 2, 63, 64, 65, 130} {
		vals := make([]int8, n)
		for i := range vals {
			vals[i] = int8(i*97%256 - 128)
		}
		alike[int8](t, "int8", vals)
		alike[int16](t, "int16", vals)
		alike[int32](t, "int32", vals)
		alike[own](t, "a type of its own", vals)
	}
}

// TestPlacesStop: who goes through a cube's places may stop at each of them, and finds their words alone.
func TestPlacesStop(t *testing.T) {
	c := api.Cube{Shape: api.Shape{H: 2, W: 2, C: 65}, Words: []uint64{1, 0, 2, 1, 3, 0, 4, 1}}
	for stop := range 4 {
		seen := 0
		for i, words := range places(c) {
			if i != seen || !slices.Equal(words, c.Words[2*i:2*i+2]) || cap(words) != 2 {
				t.Errorf("P12.1: place %d has the words %v, with room for %d", i, words, cap(words))
			}
			seen++
			if i == stop {
				break
			}
		}
		if seen != stop+1 {
			t.Errorf("P12.1: %d places were seen, not %d", seen, stop+1)
		}
	}
}
