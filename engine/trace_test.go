package engine_test

import (
	"slices"
	"testing"

	"heddle/api"
	"heddle/net"
	"heddle/plain"
)

// TestTraces: each layer's shape and values, in order, the last one's the logits; and these are Run's.
func TestTraces(t *testing.T) {
	d := dice(224)
	for _, n := range d.networks(100) {
		g := load(t, n)
		shapes, _ := net.Shapes(n)
		for _, x := range d.inputs(n, 2) {
			steps, e := g.Trace(x)
			r, eToo := g.Run(x)
			if e != api.OK || eToo != api.OK || len(steps) != len(shapes) {
				t.Fatalf("P22.4: %d steps, %d, %d", len(steps), e, eToo)
			}
			for i, s := range steps {
				if s.Shape != shapes[i] || len(s.Values) != count(shapes[i]) {
					t.Errorf("P22.4: the step %d has the shape %v and %d values, not %v", i, s.Shape, len(s.Values), shapes[i])
				}
				odd := func(v int64) bool { return v != 1 && v != -1 }
				if i < len(steps)-1 && slices.ContainsFunc(s.Values, odd) {
					t.Errorf("P22.4: the step %d has other values than 1 and -1: %v", i, s.Values)
				}
			}
			if !slices.Equal(steps[len(steps)-1].Values, r.Logits) {
				t.Errorf("P22.4: the last step is %v, the logits are %v", steps[len(steps)-1].Values, r.Logits)
			}
		}
	}
}

// full is a network whose outputs have 2^22 elements together, less 1 and plus the last layer's logits.
func full(t *testing.T, logits int) api.Net {
	t.Helper()
	n := network(of(4, 4, 1), conv(win(1, 1, 1, 1, 14, 14, 14, 14), -1, turns(4095, 1, -1, 0), zeros(4095)...), dense(turns(3*32*32*4095, 1, 0, -1, -1), zeros(3)...), last(turns(3*logits, 1, -1, 0), make([]int64, logits)...))
	shapes, e := net.Shapes(n)
	total := 0
	for _, s := range shapes {
		total += count(s)
	}
	if e != api.OK || total != 32*32*4095+3+logits {
		t.Fatalf("the test's own network: %d, %d elements", e, total)
	}
	return n
}

// TestTraceOfManyElements: 2^22 of them are told, one more is not; of Run there is no such bound.
func TestTraceOfManyElements(t *testing.T) {
	x := []byte{1, 200, 3, 0, 128, 127, 255, 9, 77, 150, 30, 31, 32, 33, 250, 251}
	just := full(t, 1021)
	if together := 32*32*4095 + 3 + 1021; together != maxTrace {
		t.Fatalf("the test's own network: %d elements", together)
	}
	want, e := plain.Trace(just, x)
	if e != api.OK {
		t.Fatalf("plain.Trace: %d", e)
	}
	r := api.Result{Logits: want[2].Values, Arg: slices.Index(want[2].Values, slices.Max(want[2].Values))}
	gives(t, "2^22 elements", load(t, just), x, r, want)

	over := full(t, 1022)
	g := load(t, over)
	if l, e := g.Trace(x); e != api.ErrBig || len(l) != 0 {
		t.Errorf("P22.4: 2^22 + 1 elements: %d steps, %d", len(l), e)
	}
	if l, e := plain.Trace(over, x); e != api.ErrBig || len(l) != 0 {
		t.Errorf("plain.Trace: %d steps, %d", len(l), e)
	}
	if r, e := g.Run(x); e != api.OK || !slices.Equal(r.Logits[:1021], want[2].Values) || len(r.Logits) != 1022 {
		t.Errorf("P22.3: 2^22 + 1 elements: Run = %d logits, %d", len(r.Logits), e)
	}
	// ErrInput stands ahead of ErrBig.
	for _, length := range []int{0, 15, 17, 4096} {
		refuses(t, "2^22 + 1 elements", g, make([]byte, length))
	}
}

// TestTraceIsRefusedAtOnce: ErrBig is told without a run, which would take an arena.
func TestTraceIsRefusedAtOnce(t *testing.T) {
	g := load(t, great())
	x := make([]byte, 1<<24)
	size := taken(func() {
		if l, e := g.Trace(x); e != api.ErrBig || len(l) != 0 {
			t.Errorf("P22.4: %d steps, %d", len(l), e)
		}
		if l, e := g.Trace(x[1:]); e != api.ErrInput || len(l) != 0 {
			t.Errorf("P22.4: a byte less: %d steps, %d", len(l), e)
		}
	})
	if size > 1<<16 {
		t.Errorf("P22.4: a Trace that is refused takes %d bytes", size)
	}
}

// TestTraceOfOneLayer: that of a network whose first layer is the last one.
func TestTraceOfOneLayer(t *testing.T) {
	l, e := load(t, tiny(5, -5)).Trace([]byte{3, 4, 255})
	if e != api.OK || !sameSteps(l, []api.Step{{Shape: of(1, 1, 2), Values: []int64{9, 1}}}) {
		t.Errorf("P22.4: %v, %d", l, e)
	}
}
