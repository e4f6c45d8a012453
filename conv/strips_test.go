package conv

import (
	"slices"
	"testing"

	"heddle/api"
)

// spy is a way that notes the strips it is given, and writes each place's number as all its sums.
type spy struct {
	t       *testing.T
	outputs int
	strips  *[][2]int
}

func (s spy) strip(sums []int64, first, end int) {
	*s.strips = append(*s.strips, [2]int{first, end})
	if len(sums) != (end-first)*s.outputs {
		s.t.Errorf("a strip from %d up to %d has room for %d sums", first, end, len(sums))
	}
	for i := range sums {
		sums[i] = int64(first + i/s.outputs)
	}
}

// TestStrips: all places are given, in their order, in strips of as many as keep what they take below 2^16 words, one at least.
func TestStrips(t *testing.T) {
	for _, outputs := range []int{1, 3} {
		for _, words := range []int{1, 2, 9, 255, 256, 257, 32767, 32768, 65535, 65536, 65537, 8 * 225 * 64} {
			most := 1
			for most*words+words < 1<<16 {
				most++
			}
			for _, places := range []int{1, 2, most - 1, most, most + 1, 2*most - 1, 2 * most, 2*most + 1, 5*most + 3} {
				if places > 0 {
					strips(t, places, outputs, words, most)
				}
			}
		}
	}
}

func strips(t *testing.T, places, outputs, words, most int) {
	t.Helper()
	var given [][2]int
	tk := task{out: api.Shape{H: 1, W: places, C: outputs}}
	sums := tk.sums(spy{t, outputs, &given}, words)
	var is [][2]int
	for at := 0; at < places; at += most {
		is = append(is, [2]int{at, min(places, at+most)})
	}
	if !slices.Equal(given, is) {
		t.Errorf("%d places of %d words: %d strips, not %d of %d places", places, words, len(given), len(is), most)
	}
	if len(sums) != places*outputs {
		t.Fatalf("%d places of %d words: %d sums", places, words, len(sums))
	}
	for i, n := range sums {
		if n != int64(i/outputs) {
			t.Fatalf("%d places of %d words: the sum %d is that of the place %d", places, words, i, n)
		}
	}
}
