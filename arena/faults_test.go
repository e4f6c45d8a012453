package arena_test

import (
	"testing"

	"heddle/api"
	"heddle/packed"
)

// TestModelsThatMayNotBe: packed.Check's error comes ahead of all others, of every kind and in every layer.
func TestModelsThatMayNotBe(t *testing.T) {
	for _, c := range []struct {
		what string
		e    api.Errno
		do   func(m *api.Model)
	}{
		{"nothing at all", api.ErrName, func(m *api.Model) { *m = api.Model{} }},
		{"no name", api.ErrName, func(m *api.Model) { m.Name = "" }},
		{"a blank in the name", api.ErrName, func(m *api.Model) { m.Name = "a b" }},
		{"no shape", api.ErrShape, func(m *api.Model) { m.In.W = 0 }},
		{"a shape below 0", api.ErrShape, func(m *api.Model) { m.In = of(-4, -4, 1) }},
		{"a big input", api.ErrBig, func(m *api.Model) { m.In = of(4096, 4096, 4096) }},
		{"no layers", api.ErrLayers, func(m *api.Model) { m.Packs = nil }},
		{"65 layers", api.ErrLayers, func(m *api.Model) { m.Packs = append(make([]api.Pack, 61), m.Packs...) }},
		{"no kind", api.ErrLayers, func(m *api.Model) { m.Packs[0].Kind = 0 }},
		{"a pool first", api.ErrLayers, func(m *api.Model) { m.Packs = m.Packs[1:] }},
		{"a pool last", api.ErrLayers, func(m *api.Model) { m.Packs = m.Packs[:2] }},
		{"a convolution last", api.ErrLayers, func(m *api.Model) { m.Packs = m.Packs[:1] }},
		{"a pool with outputs", api.ErrLayers, func(m *api.Model) { m.Packs[1].K = 3 }},
		{"a dense layer with a window", api.ErrLayers, func(m *api.Model) { m.Packs[2].Win = point() }},
		{"no outputs", api.ErrShape, func(m *api.Model) { m.Packs[0].K = 0 }},
		{"outputs below 0", api.ErrShape, func(m *api.Model) { m.Packs[3].K = -1 }},
		{"no window", api.ErrWindow, func(m *api.Model) { m.Packs[0].Win = api.Window{} }},
		{"no steps", api.ErrWindow, func(m *api.Model) { m.Packs[1].Win.StepX = 0 }},
		{"a pool with a border", api.ErrWindow, func(m *api.Model) { m.Packs[1].Win.Top = 1 }},
		{"a window that does not fit", api.ErrFit, func(m *api.Model) { m.Packs[0].Win.R = 5 }},
		{"a pool that does not fit", api.ErrFit, func(m *api.Model) { m.Packs[1].Win.S = 5 }},
		{"no weights", api.ErrWeight, func(m *api.Model) { m.Packs[2].Rows = nil }},
		{"no kind of weights", api.ErrWeight, func(m *api.Model) { m.Packs[3].Weight = 0 }},
		{"a bit that stands for nothing", api.ErrWeight, func(m *api.Model) { m.Packs[0].Rows[0].Some.Words[0] |= 2 }},
		{"too many weights", api.ErrBig, func(m *api.Model) { m.In = of(4096, 4096, 1); m.Packs = m.Packs[3:]; m.Packs[0].K = 2 }},
		{"a threshold less", api.ErrThresh, func(m *api.Model) { m.Packs[2].Threshes = m.Packs[2].Threshes[1:] }},
		{"a mode that is none", api.ErrThresh, func(m *api.Model) { m.Packs[0].Threshes[2].Mode = 5 }},
		{"a bias more", api.ErrBias, func(m *api.Model) { m.Packs[3].Biases = append(m.Packs[3].Biases, 0) }},
		{"a bias too great", api.ErrReach, func(m *api.Model) { m.Packs[3].Biases[0] = 1<<31 - 1 }},
	} {
		m := chapter()
		good := made(t, m)
		c.do(&m)
		if _, e := packed.Check(m); e != c.e {
			t.Errorf("the test's own model, %s: %d, not %d", c.what, e, c.e)
		}
		for _, ways := range [][]int{nil, {0}, {1, 0, 0, 0}, {9}, {0, 1}, {0, 0, 0, 0, 0}, {9, 9, 9, 9, 9, 9}, make([]int, 65), make([]int, 100)} {
			makes(t, c.what, m, ways, api.Plan{}, c.e)
		}
		for _, p := range []api.Plan{{}, good, plan([]int{9}, slots(-1, -1), -1), plan(make([]int, len(m.Packs)), make([]api.Slot, len(m.Packs)), maxWords+1), plan(good.Ways, good.Slots, 0)} {
			checks(t, c.what, m, p, c.e)
		}
	}
}
