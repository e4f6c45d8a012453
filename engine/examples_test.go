package engine_test

import (
	"slices"
	"testing"

	"heddle/api"
	"heddle/arena"
	"heddle/engine"
)

// The chapter's examples, by their numbers.

func TestExamples1And2(t *testing.T) {
	g := load(t, tiny(5, -5))
	runs(t, "example 1", g, []byte{3, 4, 255}, 0, 9, 1)
	refuses(t, "example 1", g, []byte{3, 4})
	runs(t, "example 2", load(t, tiny(0, 3)), []byte{3, 4, 255}, 1, 4, 9)
	runs(t, "example 2", load(t, tiny(0, -2)), []byte{3, 4, 255}, 0, 4, 4)
}

func TestExample3(t *testing.T) {
	g := load(t, edge(0, from(0)))
	runs(t, "example 3", g, []byte{1, 2, 3, 4}, 0, 4, 0)
	runs(t, "example 3", g, []byte{255, 255, 0, 0}, 1, -4, 0)
}

// TestExample4 tells the sums by norms that stand just at them and just above them.
func TestExample4(t *testing.T) {
	for border, sum := range map[int]int64{0: 10, -1: 5, 1: 15} {
		for _, way := range []int{api.WayDirect, api.WayPatch, api.WayBlock} {
			at, above := load(t, edge(border, from(sum))), load(t, edge(border, from(sum+1)))
			p, _ := arena.Make(at.Model(), way)
			runs(t, "example 4, at the sum", with(t, at, p), []byte{1, 2, 3, 4}, 0, 4, 0)
			runs(t, "example 4, above it", with(t, above, p), []byte{1, 2, 3, 4}, 1, -4, 0)
		}
	}
}

func TestExample5(t *testing.T) {
	n := edgePool(0, from(0))
	n.Layers[0].Win = point()
	n.Layers[0].Weights = []int8{1}
	g := load(t, n)
	// The greatest of all four: a plus, if one of them is.
	for x, plus := range map[[4]byte]bool{
		{1, 2, 3, 4}: true, {255, 255, 255, 255}: false, {255, 255, 255, 0}: true, {128, 5, 128, 128}: true, {0, 200, 200, 200}: true, {128, 129, 254, 255}: false, {128, 128, 7, 255}: true,
	} {
		if plus {
			runs(t, "example 5", g, x[:], 0, 1, -1)
		} else {
			runs(t, "example 5", g, x[:], 1, -1, 1)
		}
	}
	for border, sum := range map[int]int64{0: 10, -1: 5, 1: 15} {
		runs(t, "example 5, edge's window", load(t, edgePool(border, from(sum))), []byte{1, 2, 3, 4}, 0, 1, -1)
		runs(t, "example 5, edge's window", load(t, edgePool(border, from(sum+1))), []byte{1, 2, 3, 4}, 1, -1, 1)
	}
	l, e := load(t, edgePool(0, from(0))).Trace([]byte{1, 2, 3, 4})
	if want := []api.Step{{Shape: of(2, 2, 1), Values: []int64{1, 1, 1, 1}}, {Shape: of(1, 1, 1), Values: []int64{1}}, {Shape: of(1, 1, 2), Values: []int64{1, -1}}}; e != api.OK || !sameSteps(l, want) {
		t.Errorf("example 5: Trace = %v, %d", l, e)
	}
}

func TestExample6(t *testing.T) {
	if g, e := engine.Load(nil); g != nil || e != api.ErrShort {
		t.Errorf("example 6: no bytes: %v, %d", g, e)
	}
	b := bytesOf(t, edge(0, from(0)))
	for i := range b {
		turned := slices.Clone(b)
		turned[i] ^= 0xff
		if g, e := engine.Load(turned); g != nil || e != api.ErrSum {
			t.Errorf("example 6: byte %d turned: %v, %d", i, g, e)
		}
	}
}

func TestExample7(t *testing.T) {
	l, e := load(t, edge(0, from(0))).Trace([]byte{1, 2, 3, 4})
	if want := []api.Step{{Shape: of(2, 2, 1), Values: []int64{1, 1, 1, 1}}, {Shape: of(1, 1, 2), Values: []int64{4, 0}}}; e != api.OK || !sameSteps(l, want) {
		t.Errorf("example 7: Trace = %v, %d", l, e)
	}
}

func TestExample8(t *testing.T) {
	d := dice(8)
	for _, n := range []api.Net{edge(0, from(0)), edge(-1, from(5)), edge(1, from(15)), edgePool(0, from(0)), mixed()} {
		g := load(t, n)
		for _, way := range []int{api.WayPatch, api.WayBlock} {
			p := g.Plan()
			for i, l := range n.Layers {
				if l.Kind == api.LConv {
					p.Ways[i] = way
				}
			}
			h := with(t, g, p)
			for _, x := range d.inputs(n, 5) {
				r, e := g.Run(x)
				steps, eToo := g.Trace(x)
				if e != api.OK || eToo != api.OK {
					t.Errorf("example 8: %d, %d", e, eToo)
				}
				gives(t, "example 8", h, x, r, steps)
			}
		}
	}
}
