package patch

import (
	"testing"

	"heddle/api"
)

// TestPlacesEnd: whoever goes through the places may leave at any of them.
func TestPlacesEnd(t *testing.T) {
	s := api.Shape{H: 2, W: 3, C: 1}
	for leave := range 6 {
		seen := 0
		for y, x := range places(s) {
			if y*s.W+x != seen {
				t.Errorf("P13.1: place %d is (%d, %d)", seen, y, x)
			}
			if seen == leave {
				break
			}
			seen++
		}
		if seen != leave {
			t.Errorf("P13.1: left at place %d, not %d", seen, leave)
		}
	}
}
