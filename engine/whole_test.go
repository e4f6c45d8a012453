package engine_test

import (
	"bytes"
	"slices"
	"testing"

	"heddle/api"
	"heddle/bound"
	"heddle/chunk"
	"heddle/convert"
	"heddle/engine"
	"heddle/net"
	"heddle/packed"
	"heddle/plain"
	"heddle/slim"
	"heddle/source"
)

// sourceMagic is a source's, as the document tells it.
const sourceMagic = 0x63727368

// TestExact: networks of all sorts, through source, convert and the engine, against plain; and that there are enough of each sort.
func TestExact(t *testing.T) {
	d := dice(1001)
	counts := map[string]int{}
	for _, n := range d.networks(500) {
		g := load(t, n)
		for _, x := range d.inputs(n, 2) {
			alike(t, "T1", g, n, x)
			tally(counts, n, g, x)
		}
		refuses(t, "T1", g, make([]byte, count(n.In)+1))
		refuses(t, "T1", g, make([]byte, count(n.In)-1))
		if t.Failed() {
			t.Fatalf("T1: the network is %s", show(n))
		}
	}
	for sort, least := range map[string]int{
		"one layer": 20, "a conv over numbers": 50, "a dense layer over numbers": 50, "a conv over signs": 50, "a dense layer over signs": 50, "a pool": 50,
		"border -1": 50, "border 0": 50, "border 1": 50, "Binary": 50, "Ternary": 50, "more channels than a word has": 50,
		"pluses and minuses in a step": 1000, "Arg above 0": 1000, "Arg 0": 500,
	} {
		if counts[sort] < least {
			t.Errorf("of the sort '%s' there are %d", sort, counts[sort])
		}
	}
}

// tally counts of which sorts a network and its answer are.
func tally(counts map[string]int, n api.Net, g *engine.Engine, x []byte) {
	seen := map[string]bool{"one layer": len(n.Layers) == 1}
	kinds := map[int]string{api.LConv: "a conv", api.LDense: "a dense layer"}
	for i, l := range n.Layers {
		seen["a pool"] = seen["a pool"] || l.Kind == api.LPool
		seen["Binary"] = seen["Binary"] || l.Weight == api.Binary
		seen["Ternary"] = seen["Ternary"] || l.Weight == api.Ternary
		seen["more channels than a word has"] = seen["more channels than a word has"] || l.K > 64
		if l.Kind != api.LPool && i == 0 {
			seen[kinds[l.Kind]+" over numbers"] = true
		} else if l.Kind != api.LPool {
			seen[kinds[l.Kind]+" over signs"] = true
		}
		if w := l.Win; l.Kind == api.LConv && w.Top+w.Left+w.Bottom+w.Right > 0 {
			seen[map[int]string{-1: "border -1", 0: "border 0", 1: "border 1"}[l.Border]] = true
		}
	}
	steps, _ := g.Trace(x)
	for _, s := range steps[:max(0, len(steps)-1)] {
		seen["pluses and minuses in a step"] = seen["pluses and minuses in a step"] || slices.Contains(s.Values, 1) && slices.Contains(s.Values, -1)
	}
	r, _ := g.Run(x)
	seen["Arg above 0"], seen["Arg 0"] = r.Arg > 0, r.Arg == 0
	for sort, is := range seen {
		if is {
			counts[sort]++
		}
	}
}

// TestEveryInput: networks with two input elements, and every input.
func TestEveryInput(t *testing.T) {
	t.Parallel()
	d := dice(1002)
	for _, in := range []api.Shape{of(1, 1, 2), of(1, 2, 1), of(2, 1, 1)} {
		n := d.behind(in)
		for len(n.Layers) < 3 {
			n = d.behind(in)
		}
		g := load(t, n)
		for x := range 1 << 16 {
			in := []byte{byte(x), byte(x >> 8)}
			want, _ := plain.Run(n, in)
			if r, e := g.Run(in); e != api.OK || !sameResult(r, want) {
				t.Fatalf("T1: Run(%v) = %v, %d, not %v, of %s", in, r, e, want, show(n))
			}
		}
	}
}

// bent are a container's bytes with a chunk's Body changed, and right sums.
func (d *dice) bent(t *testing.T, magic uint32, b []byte) []byte {
	t.Helper()
	chunks, e := chunk.Read(magic, b)
	if e != api.OK {
		t.Fatalf("the test's own bytes: %d", e)
	}
	at := d.roll(0, len(chunks)-1)
	c := &chunks[at]
	spot := d.roll(0, max(0, len(c.Body)-1))
	switch kind := d.roll(0, 11); {
	case kind == 0:
		c.Tag = uint32(d.roll(0, 6))
	case kind == 1:
		c.Body = append(c.Body, byte(d.roll(0, 255)))
	case kind == 2 && len(c.Body) > 0:
		c.Body = c.Body[:spot]
	case kind == 3:
		chunks = slices.Delete(chunks, at, at+1)
	case kind == 4:
		chunks = slices.Insert(chunks, at, chunks[d.roll(0, len(chunks)-1)])
	case kind < 8 && len(c.Body) > 0:
		c.Body[spot] = byte(d.roll(0, 5))
	case len(c.Body) > 0:
		c.Body[spot] ^= 1 << d.roll(0, 7)
	}
	return container(t, magic, chunks...)
}

// TestAcceptedExactly: Convert takes just the sources of networks that may be, and ends at all bytes.
func TestAcceptedExactly(t *testing.T) {
	d := dice(1003)
	taken, refused := 0, 0
	check := func(src []byte) {
		n, e := source.Decode(src)
		b, got := convert.Convert(src)
		if got != e || (len(b) > 0) != (e == api.OK) {
			t.Errorf("T2: Convert answers %d bytes, %d; source.Decode %d", len(b), got, e)
		}
		if e != api.OK {
			refused++
			return
		}
		taken++
		if at, e := net.Check(n); e != api.OK {
			t.Errorf("T2: Convert took the source of a network that may not be: %d, %d", at, e)
		}
		again, e := source.Encode(n)
		if e != api.OK || !bytes.Equal(again, src) {
			t.Errorf("T4: source.Encode of what source.Decode gave is %d other bytes, %d", len(again), e)
		}
		g, e := engine.Load(b)
		if e != api.OK {
			t.Fatalf("T1: Load of what Convert answered: %d", e)
		}
		x := d.inputs(n, 1)[5]
		alike(t, "T1: of a changed source", g, n, x)
	}
	for _, n := range d.networks(25) {
		src, e := source.Encode(n)
		if e != api.OK {
			t.Fatalf("the test's own network may not be: %d", e)
		}
		check(src)
		for range 40 {
			check(d.bent(t, sourceMagic, src))
			turned := slices.Clone(src)
			turned[d.roll(0, len(src)-1)] ^= 1 << d.roll(0, 7)
			check(turned)
			check(src[:d.roll(0, len(src)-1)])
		}
		check(bytesOf(t, n))
	}
	check(nil)
	check(make([]byte, 1<<24+1))
	check([]byte("net tiny\n"))
	if taken < 200 || refused < 200 {
		t.Errorf("there are %d sources, and %d that are none", taken, refused)
	}
}

// TestAnyBytes: Load ends at all bytes; what it takes runs as what the model means.
func TestAnyBytes(t *testing.T) {
	d := dice(1004)
	taken, refused := 0, 0
	check := func(b []byte) {
		m, e := packed.Decode(b)
		g, got := engine.Load(b)
		if got != e || (g != nil) != (e == api.OK) {
			t.Fatalf("P22.1, T3: Load answers %v, %d; packed.Decode %d", g, got, e)
		}
		if e != api.OK {
			refused++
			return
		}
		taken++
		if again, e := packed.Encode(m); e != api.OK || !bytes.Equal(again, b) {
			t.Errorf("T4: packed.Encode of what packed.Decode gave is %d other bytes, %d", len(again), e)
		}
		n, e := packed.Meaning(m)
		if e != api.OK {
			t.Fatalf("packed.Meaning: %d", e)
		}
		for _, x := range d.inputs(n, 1)[3:] {
			alike(t, "T3", g, n, x)
		}
		refuses(t, "T3", g, make([]byte, count(n.In)-1))
	}
	for _, n := range d.networks(25) {
		b := bytesOf(t, n)
		check(b)
		for range 40 {
			check(d.bent(t, magic, b))
			turned := slices.Clone(b)
			turned[d.roll(0, len(b)-1)] = byte(d.roll(0, 255))
			check(turned)
			check(b[:d.roll(0, len(b)-1)])
		}
	}
	for length := range 200 {
		any := make([]byte, length)
		for i := range any {
			any[i] = byte(d.roll(0, 255))
		}
		check(any)
	}
	if taken < 200 || refused < 200 {
		t.Errorf("there are %d models, and %d that are none", taken, refused)
	}
}

// TestOneForm: what was written is read as the same network, the same model, and written as the same bytes again.
func TestOneForm(t *testing.T) {
	d := dice(1005)
	for _, n := range d.networks(100) {
		src, e := source.Encode(n)
		back, eToo := source.Decode(src)
		if e != api.OK || eToo != api.OK || !net.Equal(back, n) {
			t.Errorf("T4: source: %d, %d, %s, not %s", e, eToo, show(back), show(n))
		}
		if again, e := source.Encode(back); e != api.OK || !bytes.Equal(again, src) {
			t.Errorf("T4: source: other bytes, %d", e)
		}
		m, _, e := convert.Of(n)
		b, eToo := packed.Encode(m)
		if e != api.OK || eToo != api.OK || !bytes.Equal(b, bytesOf(t, n)) {
			t.Errorf("T4: packed.Encode and Convert differ: %d, %d", e, eToo)
		}
		read, e := packed.Decode(b)
		if e != api.OK || !sameModel(read, m) {
			t.Errorf("T4: packed: %d, %s, not %s", e, show(read), show(m))
		}
		// What an engine tells of its model is written as the bytes that it was loaded from.
		if again, e := packed.Encode(ready(t, b).Model()); e != api.OK || !bytes.Equal(again, b) {
			t.Errorf("T4, P22.5: the engine's model has other bytes, %d", e)
		}
	}
}

// sumsOf are a layer's sums over what comes in, by the document's words: for each place, each output's.
func sumsOf(l api.Layer, in api.Shape, values []int64) (sums []int64) {
	if l.Kind == api.LDense {
		for k := range l.K {
			sum := int64(0)
			for i, v := range values {
				sum += int64(l.Weights[k*len(values)+i]) * v
			}
			sums = append(sums, sum)
		}
		return sums
	}
	out, w := outOf(l, in), l.Win
	for i := range out.H * out.W * l.K {
		y, x, k := i/l.K/out.W, i/l.K%out.W, i%l.K
		sum := int64(0)
		for j := range w.R * w.S * in.C {
			r, s, c := j/in.C/w.S, j/in.C%w.S, j%in.C
			row, column := y*w.StepY+r-w.Top, x*w.StepX+s-w.Left
			seen := int64(l.Border)
			if row >= 0 && row < in.H && column >= 0 && column < in.W {
				seen = values[(row*in.W+column)*in.C+c]
			}
			sum += int64(l.Weights[((k*w.R+r)*w.S+s)*in.C+c]) * seen
		}
		sums = append(sums, sum)
	}
	return sums
}

// TestReach: no sum of a run, and no logit, leaves what bound.Net tells; and each sum became what the step tells.
func TestReach(t *testing.T) {
	d := dice(1006)
	for _, n := range d.networks(150) {
		g := load(t, n)
		reaches, _, e := bound.Net(n)
		if e != api.OK {
			t.Fatalf("bound.Net: %d", e)
		}
		for _, x := range d.inputs(n, 1) {
			steps, e := g.Trace(x)
			if e != api.OK {
				t.Fatalf("P22.4: %d", e)
			}
			in := api.Step{Shape: n.In}
			for _, b := range x {
				in.Values = append(in.Values, int64(int8(b)))
			}
			for i, l := range n.Layers {
				if l.Kind != api.LPool {
					within(t, l, reaches[i], sumsOf(l, in.Shape, in.Values), steps[i].Values)
				}
				in = steps[i]
			}
		}
	}
}

// within: a layer's sums, or its logits, are in their reaches, and became these values.
func within(t *testing.T, l api.Layer, reaches []api.Reach, sums, values []int64) {
	t.Helper()
	for i, sum := range sums {
		k := i % l.K
		if len(l.Biases) > 0 {
			sum += l.Biases[k]
			if values[i] != sum {
				t.Errorf("P22.4: a logit is %d, not %d", values[i], sum)
			}
		}
		if sum < reaches[k].Lo || sum > reaches[k].Hi || sum > most || sum < -most {
			t.Errorf("T5: %d leaves the reach %v", sum, reaches[k])
		}
	}
}

// TestReachAtItsEnds: logits as great as may be: a fan-in of 4095 * 4095 elements, each 128 in amount, and a bias that makes it up to MaxSum.
func TestReachAtItsEnds(t *testing.T) {
	t.Parallel()
	const fan = 4095 * 4095
	low, high := slices.Repeat([]byte{128}, fan), slices.Repeat([]byte{127}, fan)
	lone := func(weight int8, bias int64) *engine.Engine {
		return load(t, network(of(4095, 4095, 1), last(turns(fan, weight), bias)))
	}
	g := lone(1, 128*fan-most)
	runs(t, "T5: the least logit", g, low, 0, -most)
	runs(t, "T5: the greatest element", g, high, 0, 255*fan-most)
	g = lone(-1, most-128*fan)
	runs(t, "T5: the greatest logit", g, low, 0, most)
	runs(t, "T5: the greatest element, turned", g, high, 0, most-255*fan)
}

// sizes are how many outputs and weights each layer of a network has.
func sizes(n api.Net) (list []int) {
	for _, l := range n.Layers {
		list = append(list, l.K, len(l.Weights))
	}
	return list
}

// TestSlimmedAlike: what slim.Slim answers may be, is not larger, and its engine answers as the network's own does.
func TestSlimmedAlike(t *testing.T) {
	d := dice(1007)
	smaller := 0
	for _, n := range d.networks(150) {
		s, e := slim.Slim(n)
		if at, check := net.Check(s); e != api.OK || check != api.OK {
			t.Fatalf("T7: Slim = %d; net.Check = %d, %d", e, at, check)
		}
		was, is := sizes(n), sizes(s)
		if len(was) != len(is) {
			t.Fatalf("T7: %d layers, not %d", len(s.Layers), len(n.Layers))
		}
		for i := range is {
			if is[i] > was[i] {
				t.Errorf("T7: it is larger: %v, before %v", is, was)
			}
		}
		if !slices.Equal(was, is) {
			smaller++
		}
		g, h := load(t, n), load(t, s)
		for _, x := range d.inputs(n, 2) {
			a, e := g.Run(x)
			b, eToo := h.Run(x)
			if e != api.OK || eToo != api.OK || !sameResult(a, b) {
				t.Errorf("T7: %v, %d, slimmed %v, %d", a, e, b, eToo)
			}
			alike(t, "T7: slimmed", h, s, x)
		}
	}
	if smaller < 20 {
		t.Errorf("%d networks became smaller", smaller)
	}
}
