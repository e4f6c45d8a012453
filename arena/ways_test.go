package arena_test

import (
	"math"
	"slices"
	"testing"

	"heddle/api"
)

// TestWaysOfMake: each way at each layer, alone and with others.
func TestWaysOfMake(t *testing.T) {
	for what, m := range models() {
		for i, p := range m.Packs {
			for _, way := range []int{math.MinInt, math.MinInt32, -3, -2, -1, 0, 1, 2, 3, 4, 5, 255, 256, 257, 1 << 32, 1<<32 + 1, math.MaxInt} {
				ways := make([]int, i+1)
				ways[i] = way
				full := append(slices.Clone(ways), make([]int, len(m.Packs)-i-1)...)
				if way == 0 || p.Kind == api.LConv && (way == 1 || way == 2 || way == 3) {
					makes(t, what, m, ways, expected(m, ways), api.OK)
					makes(t, what+", as many ways as layers", m, full, expected(m, ways), api.OK)
					continue
				}
				makes(t, what+", a way that may not be", m, ways, api.Plan{}, api.ErrArg)
				makes(t, what+", a way that may not be, as many ways as layers", m, full, api.Plan{}, api.ErrArg)
			}
		}
	}
}

// TestHowManyWays: none, fewer than layers, as many, more.
func TestHowManyWays(t *testing.T) {
	for what, m := range models() {
		layers := len(m.Packs)
		for n := range 2*layers + 3 {
			ways := make([]int, n)
			if n <= layers {
				makes(t, what, m, ways, expected(m, nil), api.OK)
				continue
			}
			makes(t, what+", too many ways", m, ways, api.Plan{}, api.ErrLong)
			ways[0], ways[n-1] = -1, 4
			makes(t, what+", too many ways, some of which may not be", m, ways, api.Plan{}, api.ErrLong)
		}
		makes(t, what+", far too many ways", m, make([]int, 1<<20), api.Plan{}, api.ErrLong)
		makes(t, what+", an empty list of ways", m, []int{}, expected(m, nil), api.OK)
		makes(t, what+", ways with room behind them", m, append(make([]int, 0, 100), 9, 9, 9)[:0], expected(m, nil), api.OK)
	}
}

// TestAllWays: every layer in every way; those that may not be among those that may.
func TestAllWays(t *testing.T) {
	m := model(of(2, 2, 3), conv(2, point()), conv(3, point()), pool(point()), dense(1))
	for a := -1; a <= 4; a++ {
		for b := -1; b <= 4; b++ {
			for c := -1; c <= 4; c++ {
				for d := -1; d <= 4; d++ {
					ways := []int{a, b, c, d}
					lie := slots(0, 4, 4, 4, 0, 4, 0, 0)
					asked, goes := min(a, b) >= 0 && max(a, b) <= 3 && c == 0 && d == 0, min(a, b) >= 1 && max(a, b) <= 3 && c == 0 && d == 0
					if asked {
						makes(t, "ways", m, ways, plan([]int{max(a, 1), max(b, 1), 0, 0}, lie, 8), api.OK)
					} else {
						makes(t, "ways", m, ways, api.Plan{}, api.ErrArg)
					}
					if goes {
						checks(t, "ways", m, plan(ways, lie, 8), api.OK)
					} else {
						checks(t, "ways", m, plan(ways, lie, 8), api.ErrArena)
					}
				}
			}
		}
	}
}
