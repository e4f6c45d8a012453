package convert_test

import (
	"bytes"
	"reflect"
	"slices"
	"testing"

	"heddle/api"
	"heddle/convert"
	"heddle/frac"
	"heddle/net"
	"heddle/packed"
	"heddle/plain"
)

// means: what the model means is the network, but for its norms; and these make the same of sums.
func means(t *testing.T, what string, n api.Net, m api.Model) {
	t.Helper()
	got, e := packed.Meaning(m)
	if e != api.OK || len(got.Layers) != len(n.Layers) {
		t.Errorf("P20.6: %s: Meaning = %d, %d layers", what, e, len(got.Layers))
		return
	}
	bare := net.Clone(n)
	for i := range bare.Layers {
		bare.Layers[i].Norms = got.Layers[i].Norms
	}
	if !net.Equal(bare, got) {
		t.Errorf("P20.6: %s: the meaning is not the network: %s, %s", what, show(got), show(n))
	}
	for i, l := range n.Layers {
		if len(l.Norms) != len(got.Layers[i].Norms) {
			t.Errorf("P20.6: %s: the layer %d has %d norms", what, i, len(got.Layers[i].Norms))
			return
		}
		for k, x := range l.Norms {
			sumsAlike(t, what, x, got.Layers[i].Norms[k], m.Packs[i].Threshes[k].T)
		}
	}
}

// sumsAlike: two norms make the same of sums: at both ends, around 0 and around the threshold's T.
func sumsAlike(t *testing.T, what string, a, b api.Norm, turn int64) {
	t.Helper()
	for _, about := range []int64{-most, 0, most, turn} {
		for x := max(about-2, -most); x <= min(about+2, most); x++ {
			one, e := frac.Plus(a, x)
			two, eToo := frac.Plus(b, x)
			if e != api.OK || eToo != api.OK || one != two {
				t.Errorf("P20.6: %s: of %d %v makes %v, %v makes %v; %d, %d", what, x, a, one, b, two, e, eToo)
			}
		}
	}
}

// inputs are some of a network's size: even ones, those at both ends, any.
func (d *dice) inputs(n api.Net) [][]byte {
	size := count(n.In)
	var all [][]byte
	for _, b := range []byte{0, 1, 127, 128, 255} {
		all = append(all, slices.Repeat([]byte{b}, size))
	}
	for range 5 {
		ends, any := make([]byte, size), make([]byte, size)
		for i := range size {
			ends[i], any[i] = byte(127+d.roll(0, 1)), byte(d.roll(0, 255))
		}
		all = append(all, ends, any)
	}
	return all
}

// TestSameAnswers: the network and what its model means answer the same, layer by layer.
func TestSameAnswers(t *testing.T) {
	d := dice(206)
	list := []api.Net{tiny(), edge(), mixed()}
	for range 60 {
		list = append(list, d.network())
	}
	for _, n := range list {
		m, _, _ := convert.Of(n)
		meaning, e := packed.Meaning(m)
		if e != api.OK {
			t.Fatalf("P20.6: Meaning = %d", e)
		}
		for _, x := range d.inputs(n) {
			a, e := plain.Trace(n, x)
			b, eToo := plain.Trace(meaning, x)
			if e != api.OK || eToo != api.OK || !reflect.DeepEqual(a, b) {
				t.Errorf("P20.6: %v: %v, %d and %v, %d", x, a, e, b, eToo)
			}
		}
	}
}

// folding are norms and the threshold that each folds to, worked out by hand.
func folding() map[api.Thresh][]api.Norm {
	return map[api.Thresh][]api.Norm{
		{Mode: api.ModeGE}: {
			whole(1, 0, 0, 1), whole(7, 0, 0, 1), whole(1, 0, 0, 9), norm(fr(4, 4), fr(0, 7), fr(0, 9), fr(3, 3)),
			norm(fr(1, 1), fr(0, 1), fr(-1, 2), fr(1, 1)), whole(most, most-1, 0, 1), norm(fr(1, 1<<20), fr(0, 1), fr(0, 1), fr(most, 1)), norm(fr(1, 3), fr(1, 3), fr(1, 2), fr(1, 2)),
		},
		{Mode: api.ModeGE, T: 4}:        {whole(1, 0, 4, 1), norm(fr(1, 1), fr(0, 1), fr(7, 2), fr(1, 1)), whole(1, -4, 0, 1), whole(2, -8, 0, 1), whole(2, -7, 0, 1), whole(3, -2, 2, 3)},
		{Mode: api.ModeGE, T: -1}:       {whole(2, 1, 0, 3), whole(1, 0, -1, 1), whole(1, 1, 0, 1), norm(fr(2, 3), fr(1, 1), fr(0, 1), fr(1, 1))},
		{Mode: api.ModeGE, T: most}:     {whole(1, 0, most, 1), whole(1, -most, 0, 1), norm(fr(1, 2), fr(-1, 2), fr(most-1, 1), fr(1, 1)), norm(fr(5, 1), fr(-1, 1), fr(most-1, 1), fr(1, 1))},
		{Mode: api.ModeGE, T: 1 - most}: {whole(1, 0, 1-most, 1), whole(1, -1, -most, 1), norm(fr(1, 1), fr(-1, 1<<20), fr(-most, 1), fr(1, 1))},
		{Mode: api.ModeLE, T: 3}:        {whole(-1, 0, 3, 1), norm(fr(-1, 1), fr(0, 1), fr(7, 2), fr(1, 1)), whole(-1, 3, 0, 1), whole(-9, 35, 0, 1), whole(-1, 1, 0, 3)},
		{Mode: api.ModeLE}:              {whole(-1, 0, 0, 1), whole(-3, 2, 0, 1), norm(fr(-2, 1<<20), fr(0, 1), fr(0, 1), fr(most, 7))},
		{Mode: api.ModeLE, T: -most}:    {whole(-1, 0, -most, 1), whole(-1, -most, 0, 1), whole(-2, 1, -most, 1)},
		{Mode: api.ModeLE, T: most - 1}: {whole(-1, 0, most-1, 1), whole(-1, -1, most, 1), norm(fr(-1, 1), fr(-1, 1<<20), fr(most, 1), fr(1, 1))},
		{Mode: api.ModePlus}: {
			whole(0, 0, 5, 1), norm(fr(0, 8), fr(1, 9), fr(5, 1), fr(1, 1)), whole(0, 0, 0, 1), whole(0, most, -most, most), whole(1, 0, -most, 1), whole(-1, 0, most, 1),
			norm(fr(1, 1<<20), fr(most, 1), fr(0, 1), fr(most, 1)), whole(1, most, 0, 1), whole(-1, most, 0, 1),
		},
		{Mode: api.ModeMinus}: {
			whole(0, -1, 5, 1), norm(fr(0, 1), fr(-1, 1<<20), fr(5, 1), fr(1, 1)), whole(0, -most, 0, most), whole(1, -1, most, 1), whole(-1, -1, -most, 1),
			norm(fr(1, 1<<20), fr(-most, 1), fr(0, 1), fr(most, 1)),
		},
	}
}

// TestOneModel: networks that differ in norms alone that fold to the same thresholds have one model; to others, another one.
func TestOneModel(t *testing.T) {
	in := of(1, 2, 1)
	kinds := map[string]func(list ...api.Norm) api.Net{
		"an LDense": func(list ...api.Norm) api.Net {
			n := network(in, dense(len(list), 2), last(2, len(list)))
			n.Layers[0].Norms = list
			return n
		},
		"an LConv": func(list ...api.Norm) api.Net {
			n := network(in, conv(2, point(), 1), conv(len(list), win(1, 2, 1, 1, 0, 0, 0, 0), 2), last(2, len(list)))
			n.Layers[1].Norms = list
			return n
		},
	}
	for kind, with := range kinds {
		seen := map[string]api.Thresh{}
		for thresh, list := range folding() {
			first, _ := convert.Convert(sourceOf(t, with(list[0])))
			for _, x := range list {
				n := with(x)
				m, _, e := convert.Of(n)
				if p := m.Packs[len(m.Packs)-2]; e != api.OK || !slices.Equal(p.Threshes, []api.Thresh{thresh}) {
					t.Errorf("P20.1: %s: %v folds to %v, %d, not to %v", kind, x, p.Threshes, e, thresh)
				}
				if b, e := convert.Convert(sourceOf(t, n)); e != api.OK || !bytes.Equal(b, first) {
					t.Errorf("P20.6: %s: %v and %v have two models, %d", kind, x, list[0], e)
				}
				alike(t, kind, n)
			}
			if other, there := seen[string(first)]; there {
				t.Errorf("P20.6: %s: %v and %v have one model", kind, other, thresh)
			}
			seen[string(first)] = thresh
		}
	}
}

// TestNormsInOrder: each output has the threshold of its own norm.
func TestNormsInOrder(t *testing.T) {
	var list []api.Norm
	var want []api.Thresh
	for _, thresh := range []api.Thresh{{Mode: 4}, {Mode: 1, T: 4}, {Mode: 2, T: 3}, {Mode: 3}, {Mode: 1}, {Mode: 1, T: -1}, {Mode: 2}, {Mode: 1, T: 1 - most}, {Mode: 2, T: most - 1}, {Mode: 1, T: most}, {Mode: 2, T: -most}} {
		for _, x := range folding()[thresh] {
			list, want = append(list, x), append(want, thresh)
		}
	}
	for range len(list) {
		list, want = append(list[1:], list[0]), append(want[1:], want[0])
		n := network(of(1, 1, 2), dense(len(list), 2), conv(len(list), point(), len(list)), last(1, len(list)))
		n.Layers[0].Norms, n.Layers[1].Norms = list, list
		m, at, e := convert.Of(n)
		if e != api.OK || at != 0 || !slices.Equal(m.Packs[0].Threshes, want) || !slices.Equal(m.Packs[1].Threshes, want) {
			t.Errorf("P20.1: %d, %d: %v, %v, not %v", at, e, m.Packs[0].Threshes, m.Packs[1].Threshes, want)
		}
	}
}
