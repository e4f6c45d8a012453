package packed_test

import (
	"math"
	"reflect"
	"slices"
	"strings"
	"testing"

	"heddle/api"
)

// dice gives numbers that look like any, the same ones in every run of the tests.
type dice uint64

// roll is a number from least to most.
func (d *dice) roll(least, most int) int {
	*d = *d*6364136223846793005 + 1442695040888963407
	return least + int(uint64(*d)>>33)%(most-least+1)
}

func one[T any](d *dice, list []T) T { return list[d.roll(0, len(list)-1)] }

// thresh is a threshold that may be.
func (d *dice) thresh() api.Thresh {
	switch d.roll(0, 4) {
	case 0:
		return api.Thresh{Mode: api.ModePlus}
	case 1:
		return api.Thresh{Mode: api.ModeMinus}
	case 2:
		return api.Thresh{Mode: api.ModeLE, T: one(d, []int64{-most, most - 1, 0, int64(d.roll(-999, 999))})}
	}
	return api.Thresh{Mode: api.ModeGE, T: one(d, []int64{1 - most, most, 0, int64(d.roll(-999, 999))})}
}

// layer is one that may stand behind what comes in.
func (d *dice) layer(in api.Shape, begins, ends bool) api.Pack {
	p := api.Pack{Kind: d.roll(1, 3), Weight: d.roll(1, 2), K: one(d, []int{1, 2, 3, 4, 63, 64, 65, 128})}
	if begins && p.Kind == api.LPool {
		p.Kind = api.LConv
	}
	if ends {
		p.Kind = api.LDense
	}
	if p.Kind == api.LPool {
		return pool(win(d.roll(1, min(3, in.H)), d.roll(1, min(3, in.W)), d.roll(1, 15), d.roll(1, 15), 0, 0, 0, 0))
	}
	places, channels, gap := 1, in.H*in.W*in.C, 0
	if p.Kind == api.LConv {
		w := win(d.roll(1, min(4, in.H)), d.roll(1, min(4, in.W)), d.roll(1, 3), d.roll(1, 3), d.roll(0, 2), d.roll(0, 2), d.roll(0, 2), d.roll(0, 2))
		if w.Top+w.Left+w.Bottom+w.Right > 0 {
			p.Border = d.roll(-1, 1)
		}
		p.Win, places, channels, gap = w, w.R*w.S, in.C, (64-in.C%64)%64
	}
	for range p.K {
		weights := make([]int8, places*channels)
		for i := range weights {
			weights[i] = one(d, [][]int8{api.Binary: {1, -1}, api.Ternary: {1, -1, 0}}[p.Weight])
		}
		p.Rows = append(p.Rows, spread(channels, gap, weights))
		if ends {
			p.Biases = append(p.Biases, int64(one(d, []int{0, 1, -1, 2140000000, -2140000000, d.roll(-99999, 99999)})))
		} else {
			p.Threshes = append(p.Threshes, d.thresh())
		}
	}
	return p
}

// model is one of one to five layers.
func (d *dice) model() api.Model {
	in := of(d.roll(1, 4), d.roll(1, 4), one(d, []int{1, 2, 3, 63, 64, 65, 128}))
	m := api.Model{Name: one(d, []string{"a", "net", "-", "_0", strings.Repeat("Zz9-", 8)}), In: in}
	count := d.roll(1, 5)
	for i := range count {
		p := d.layer(in, i == 0, i == count-1)
		m.Packs = append(m.Packs, p)
		in = outOf(p, in)
	}
	return m
}

// TestThereAndBack: models of all sorts, written, read and told as networks.
func TestThereAndBack(t *testing.T) {
	d := dice(19)
	for range 300 {
		m := d.model()
		alike(t, "any", m)
		against(t, laid(m))
	}
}

// TestManyChannels: a convolution of every number of channels around whole words, behind a layer that gives them.
func TestManyChannels(t *testing.T) {
	d := dice(64)
	for _, c := range []int{1, 2, 31, 32, 33, 62, 63, 64, 65, 66, 126, 127, 128, 129, 191, 192, 193, 256} {
		for range 3 {
			in := of(d.roll(1, 3), d.roll(1, 3), c)
			m := model(in, d.layer(in, true, false))
			in = outOf(m.Packs[0], in)
			m.Packs = append(m.Packs, d.layer(in, true, false))
			in = outOf(m.Packs[1], in)
			m.Packs = append(m.Packs, d.layer(in, false, true))
			alike(t, "channels", m)
		}
	}
}

// spoil changes chunks in any places: bytes, ends, Tags, order.
func (d *dice) spoil(cs []api.Chunk) []api.Chunk {
	if len(cs) == 0 {
		return cs
	}
	cs = slices.Clone(cs)
	at := d.roll(0, len(cs)-1)
	body := slices.Clone(cs[at].Body)
	spot := d.roll(0, len(body))
	x := byte(one(d, []int{0, 1, 2, 3, 4, 5, 14, 15, 16, 63, 64, 127, 128, 254, 255, d.roll(0, 255)}))
	switch d.roll(0, 11) {
	default: // another byte
		if spot < len(body) {
			body[spot] = x
		}
	case 0:
		if spot < len(body) {
			body[spot] ^= 1 << d.roll(0, 7)
		}
	case 1: // a byte more
		body = slices.Insert(body, spot, x)
	case 2: // a byte less
		body = slices.Delete(body, max(spot-1, 0), spot)
	case 3:
		body = body[:spot]
	case 4:
		cs[at].Tag = uint32(d.roll(0, 6))
	case 5: // a chunk less
		return slices.Delete(cs, at, at+1)
	case 6: // twice
		return slices.Insert(cs, at, cs[at])
	case 7:
		other := d.roll(0, len(cs)-1)
		cs[at], cs[other] = cs[other], cs[at]
		return cs
	}
	cs[at].Body = body
	return cs
}

// TestAnyChunks spoils good chunks, under right sums.
func TestAnyChunks(t *testing.T) {
	d := dice(99)
	models := []api.Model{tiny(), edge(), mixed()}
	for range 20 {
		models = append(models, d.model())
	}
	good := 0
	for range 6000 {
		cs := chunksOf(one(&d, models))
		for range d.roll(1, 2) {
			cs = d.spoil(cs)
		}
		if against(t, container(magic, cs...)) == api.OK {
			good++
		}
	}
	if good < 300 || good > 5700 {
		t.Errorf("the test's own chunks: %d of 6000 are a model's", good)
	}
}

// TestAnyBytes: bytes that are no container's, and containers with bytes that are none of a model's.
func TestAnyBytes(t *testing.T) {
	d := dice(7)
	some := func(n int) []byte {
		b := make([]byte, n)
		for i := range b {
			b[i] = byte(one(&d, []int{0, 1, 2, 3, d.roll(0, 255)}))
		}
		return b
	}
	for range 10000 {
		against(t, some(d.roll(0, 80)))
		cs := []api.Chunk{{Tag: 1, Body: one(&d, [][]byte{some(d.roll(0, 20)), hexed("01 61 0100 0100 0100 01"), hexed("01 61 0200 0300 0100 02")})}}
		for range d.roll(0, 5) {
			cs = append(cs, api.Chunk{Tag: uint32(d.roll(1, 5)), Body: some(one(&d, []int{1, 2, 8, 9, 13, 13, d.roll(0, 40)}))})
		}
		against(t, container(magic, cs...))
	}
}

// leaves are all numbers and lists within a model, by a walk through all that it has.
func leaves(v reflect.Value) []reflect.Value {
	switch v.Kind() {
	case reflect.Struct:
		var all []reflect.Value
		for i := range v.NumField() {
			all = append(all, leaves(v.Field(i))...)
		}
		return all
	case reflect.Slice:
		all := []reflect.Value{v}
		for i := range v.Len() {
			all = append(all, leaves(v.Index(i))...)
		}
		return all
	}
	return []reflect.Value{v}
}

// change puts something else for one leaf: another number, a bit turned, an element more or less.
func (d *dice) change(v reflect.Value) {
	switch v.Kind() {
	case reflect.String:
		v.SetString(one(d, []string{"", "ok", "a b", strings.Repeat("n", 33)}))
	case reflect.Uint64:
		v.SetUint(one(d, []uint64{v.Uint() ^ 1<<d.roll(0, 63), v.Uint() ^ 1<<d.roll(0, 3), 0, full}))
	case reflect.Slice:
		switch n := v.Len(); d.roll(0, 3) {
		case 0:
			v.SetZero()
		case 1:
			v.Set(reflect.Append(v, reflect.New(v.Type().Elem()).Elem()))
		default:
			if n > 0 {
				v.Set(v.Slice(0, n-1))
			}
		}
	default:
		x := v.Int()
		v.SetInt(one(d, []int64{x + 1, x - 1, -x, 0, 1, 2, 3, 4, 15, 16, 64, 4096, 4097, most, -most, 1<<32 + x, math.MinInt64, math.MaxInt64}))
	}
}

// TestAnyModels: models with one to three changes anywhere.
func TestAnyModels(t *testing.T) {
	d := dice(3)
	seen := map[api.Errno]int{}
	for range 30000 {
		m := own(one(&d, []api.Model{tiny(), edge(), mixed()}))
		for range d.roll(1, 3) {
			d.change(one(&d, leaves(reflect.ValueOf(&m).Elem())))
		}
		at, e := faultOf(m)
		seen[e]++
		checks(t, "a changed model", m, at, e)
		if e == api.OK {
			alike(t, "a changed model that may be", m)
		}
	}
	for _, e := range []api.Errno{api.OK, api.ErrName, api.ErrShape, api.ErrLayers, api.ErrWeight, api.ErrBias, api.ErrReach, api.ErrWindow, api.ErrFit, api.ErrThresh} {
		if seen[e] < 20 {
			t.Errorf("the test's own models: %d are of the error %d", seen[e], e)
		}
	}
}

// own is a model in memory of its own.
func own(m api.Model) api.Model {
	m.Packs = slices.Clone(m.Packs)
	for i, p := range m.Packs {
		p.Rows, p.Threshes, p.Biases = slices.Clone(p.Rows), slices.Clone(p.Threshes), slices.Clone(p.Biases)
		for k, r := range p.Rows {
			p.Rows[k] = row(r.Sign.Len, slices.Clone(r.Sign.Words), slices.Clone(r.Some.Words))
			p.Rows[k].Some.Len = r.Some.Len
		}
		m.Packs[i] = p
	}
	return m
}
