package pool

import (
	"slices"
	"testing"
)

// TestSeen: what a window sees of a side is cut to the side, wherever it begins.
func TestSeen(t *testing.T) {
	for start := -6; start <= 8; start++ {
		for window := 1; window <= 4; window++ {
			first, end := seen(start, window, 5)
			var within, told []int
			for i := start; i < start+window; i++ {
				if i >= 0 && i < 5 {
					within = append(within, i)
				}
			}
			for i := first; i < end; i++ {
				told = append(told, i)
			}
			if !slices.Equal(within, told) {
				t.Errorf("seen(%d, %d, 5) = %d up to %d", start, window, first, end)
			}
		}
	}
}
