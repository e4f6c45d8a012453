package convert_test

import (
	"math"
	"reflect"
	"slices"
	"strings"
	"testing"

	"heddle/api"
	"heddle/net"
)

// TestFaultsOfTheNetwork: each error of net.Check, of the whole and of a layer.
func TestFaultsOfTheNetwork(t *testing.T) {
	for _, c := range []struct {
		what  string
		layer int
		e     api.Errno
		do    func(n *api.Net)
	}{
		{"no name", -1, api.ErrName, func(n *api.Net) { n.Name = "" }},
		{"a blank in its name", -1, api.ErrName, func(n *api.Net) { n.Name = "a b" }},
		{"a name of 33 letters", -1, api.ErrName, func(n *api.Net) { n.Name = strings.Repeat("q", 33) }},
		{"a long name", -1, api.ErrName, func(n *api.Net) { n.Name = strings.Repeat("q", 1<<20) }},
		{"no height", -1, api.ErrShape, func(n *api.Net) { n.In.H = 0 }},
		{"a width below 0", -1, api.ErrShape, func(n *api.Net) { n.In.W = math.MinInt }},
		{"4097 channels", -1, api.ErrShape, func(n *api.Net) { n.In.C = 4097 }},
		{"a big input", -1, api.ErrBig, func(n *api.Net) { n.In = of(4096, 4096, 2) }},
		{"no layers", -1, api.ErrLayers, func(n *api.Net) { n.Layers = nil }},
		{"an empty list of layers", -1, api.ErrLayers, func(n *api.Net) { n.Layers = []api.Layer{} }},
		{"65 layers", -1, api.ErrLayers, func(n *api.Net) { n.Layers = slices.Repeat(n.Layers[4:], 65) }},
		{"a hundred thousand layers", -1, api.ErrLayers, func(n *api.Net) { n.Layers = make([]api.Layer, 100000) }},
		{"layers of nothing", 0, api.ErrLayers, func(n *api.Net) { n.Layers = make([]api.Layer, 64) }},
		{"an LPool first", 0, api.ErrLayers, func(n *api.Net) { n.Layers = n.Layers[1:] }},
		{"an LPool last", 1, api.ErrLayers, func(n *api.Net) { n.Layers = n.Layers[:2] }},
		{"an LConv last", 3, api.ErrLayers, func(n *api.Net) { n.Layers = n.Layers[:4] }},
		{"Kind 0", 0, api.ErrLayers, func(n *api.Net) { n.Layers[0].Kind = 0 }},
		{"Kind 4", 2, api.ErrLayers, func(n *api.Net) { n.Layers[2].Kind = 4 }},
		{"a Kind below 0", 3, api.ErrLayers, func(n *api.Net) { n.Layers[3].Kind = -1 }},
		{"a great Kind", 4, api.ErrLayers, func(n *api.Net) { n.Layers[4].Kind = math.MaxInt }},
		{"an LPool with a K", 1, api.ErrLayers, func(n *api.Net) { n.Layers[1].K = 1 }},
		{"an LPool with a Weight", 1, api.ErrLayers, func(n *api.Net) { n.Layers[1].Weight = 1 }},
		{"an LPool with a Border", 1, api.ErrLayers, func(n *api.Net) { n.Layers[1].Border = 1 }},
		{"an LPool with weights", 1, api.ErrLayers, func(n *api.Net) { n.Layers[1].Weights = []int8{1} }},
		{"an LPool with norms", 1, api.ErrLayers, func(n *api.Net) { n.Layers[1].Norms = []api.Norm{whole(1, 0, 0, 1)} }},
		{"an LPool with biases", 1, api.ErrLayers, func(n *api.Net) { n.Layers[1].Biases = []int64{1} }},
		{"an LDense with a window", 2, api.ErrLayers, func(n *api.Net) { n.Layers[2].Win.R = 1 }},
		{"an LDense with a Border", 4, api.ErrLayers, func(n *api.Net) { n.Layers[4].Border = -1 }},
		{"no outputs of an LConv", 3, api.ErrShape, func(n *api.Net) { l := &n.Layers[3]; l.K, l.Weights, l.Norms = 0, nil, nil }},
		{"no outputs of an LDense", 2, api.ErrShape, func(n *api.Net) { l := &n.Layers[2]; l.K, l.Weights, l.Norms = 0, nil, nil }},
		{"no outputs of the last", 4, api.ErrShape, func(n *api.Net) { l := &n.Layers[4]; l.K, l.Weights, l.Biases = 0, nil, nil }},
		{"outputs below 0", 0, api.ErrShape, func(n *api.Net) { n.Layers[0].K = -2 }},
		{"4097 outputs", 0, api.ErrShape, func(n *api.Net) { n.In, n.Layers = of(1, 1, 1), []api.Layer{last(4097, 1)} }},
		{"a window without rows", 0, api.ErrWindow, func(n *api.Net) { n.Layers[0].Win.R = 0; n.Layers[0].Weights = nil }},
		{"a window without columns", 3, api.ErrWindow, func(n *api.Net) { n.Layers[3].Win.S = 0; n.Layers[3].Weights = nil }},
		{"a step of 0", 1, api.ErrWindow, func(n *api.Net) { n.Layers[1].Win.StepX = 0 }},
		{"a border of 15", 0, api.ErrWindow, func(n *api.Net) { n.Layers[0].Win.Right = 15 }},
		{"an LPool with a border", 1, api.ErrWindow, func(n *api.Net) { n.Layers[1].Win.Left = 1 }},
		{"Border 2", 3, api.ErrWindow, func(n *api.Net) { n.Layers[3].Border = 2 }},
		{"Border 1 without borders", 0, api.ErrWindow, func(n *api.Net) { n.Layers[0].Win = win(2, 3, 1, 1, 0, 0, 0, 0); n.Layers[0].Border = 1 }},
		{"a window that does not fit", 0, api.ErrFit, func(n *api.Net) { n.Layers[0].Win.R = 8; n.Layers[0].Weights = turns(96, 1) }},
		{"an LPool that does not fit", 1, api.ErrFit, func(n *api.Net) { n.Layers[1].Win.R = 4 }},
		{"an output that is too big", 0, api.ErrBig, func(n *api.Net) { n.In, n.Layers = of(4096, 64, 1), []api.Layer{conv(65, point(), 1), last(1, 64)} }},
		{"Weight 0", 0, api.ErrWeight, func(n *api.Net) { n.Layers[0].Weight = 0 }},
		{"Weight 3", 4, api.ErrWeight, func(n *api.Net) { n.Layers[4].Weight = 3 }},
		{"weights beyond 2^24", 2, api.ErrBig, func(n *api.Net) {
			n.In, n.Layers = of(1, 1, 2), []api.Layer{dense(4096, 2), dense(4094, 4096), last(1, 4094)}
		}},
		{"no weights", 0, api.ErrWeight, func(n *api.Net) { n.Layers[0].Weights = nil }},
		{"a weight less", 2, api.ErrWeight, func(n *api.Net) { n.Layers[2].Weights = n.Layers[2].Weights[1:] }},
		{"a weight more", 3, api.ErrWeight, func(n *api.Net) { n.Layers[3].Weights = append(n.Layers[3].Weights, 1) }},
		{"a weight 2", 0, api.ErrWeight, func(n *api.Net) { n.Layers[0].Weights[23] = 2 }},
		{"a weight -128", 4, api.ErrWeight, func(n *api.Net) { n.Layers[4].Weights[0] = -128 }},
		{"a weight 0 of Binary", 2, api.ErrWeight, func(n *api.Net) { n.Layers[2].Weights[7] = 0 }},
		{"a weight 0 of Binary, of an LConv", 3, api.ErrWeight, func(n *api.Net) { n.Layers[3].Weights[5] = 0 }},
		{"no norms", 2, api.ErrNorm, func(n *api.Net) { n.Layers[2].Norms = nil }},
		{"a norm less", 0, api.ErrNorm, func(n *api.Net) { n.Layers[0].Norms = n.Layers[0].Norms[1:] }},
		{"a norm more", 2, api.ErrNorm, func(n *api.Net) { n.Layers[2].Norms = append(n.Layers[2].Norms, whole(1, 0, 0, 1)) }},
		{"biases beside norms", 0, api.ErrNorm, func(n *api.Net) { n.Layers[0].Biases = []int64{1, 2} }},
		{"S 0", 2, api.ErrNorm, func(n *api.Net) { n.Layers[2].Norms[2].S.Num = 0 }},
		{"S below 0", 3, api.ErrNorm, func(n *api.Net) { n.Layers[3].Norms[1].S.Num = -1 }},
		{"S below 0 by its denominator", 0, api.ErrNorm, func(n *api.Net) { n.Layers[0].Norms[1].S.Den = -9 }},
		{"a denominator of 0", 0, api.ErrNorm, func(n *api.Net) { n.Layers[0].Norms[0].G.Den = 0 }},
		{"a denominator of 2^20 + 1", 2, api.ErrNorm, func(n *api.Net) { n.Layers[2].Norms[0].M.Den = 1<<20 + 1 }},
		{"a numerator of 2^31", 3, api.ErrNorm, func(n *api.Net) { n.Layers[3].Norms[0].M.Num = 1 << 31 }},
		{"the least numerator", 3, api.ErrNorm, func(n *api.Net) { n.Layers[3].Norms[0].B.Num = math.MinInt64 }},
		{"a bias less", 4, api.ErrBias, func(n *api.Net) { n.Layers[4].Biases = n.Layers[4].Biases[1:] }},
		{"no biases", 4, api.ErrBias, func(n *api.Net) { n.Layers[4].Biases = nil }},
		{"norms beside biases", 4, api.ErrBias, func(n *api.Net) { n.Layers[4].Norms = slices.Repeat([]api.Norm{whole(1, 0, 0, 1)}, 2) }},
		{"a bias that reaches too far", 4, api.ErrReach, func(n *api.Net) { n.Layers[4].Biases[1]++ }},
		{"a bias that reaches too far down", 4, api.ErrReach, func(n *api.Net) { n.Layers[4].Biases[0]-- }},
		{"the least bias", 4, api.ErrReach, func(n *api.Net) { n.Layers[4].Biases[0] = math.MinInt64 }},
		{"a fan-in that reaches too far", 0, api.ErrReach, func(n *api.Net) { n.In, n.Layers = of(4096, 4096, 1), []api.Layer{last(1, 1<<24)} }},
		{"two faults", 2, api.ErrShape, func(n *api.Net) { n.Layers[4].Biases, n.Layers[2].K = nil, 0 }},
	} {
		n := mixed()
		c.do(&n)
		unpacked(t, c.what, n, c.layer, c.e)
		if at, e := net.Check(n); at != c.layer || e != c.e {
			t.Errorf("%s: net.Check = %d, %d, not %d, %d", c.what, at, e, c.layer, c.e)
		}
	}
}

// leaves are all numbers and lists within a network, by a walk through all that it has.
func leaves(v reflect.Value) []reflect.Value {
	switch v.Kind() {
	case reflect.Struct:
		var all []reflect.Value
		for i := range v.NumField() {
			all = append(all, leaves(v.Field(i))...)
		}
		return all
	case reflect.Slice:
		all := []reflect.Value{v}
		for i := range v.Len() {
			all = append(all, leaves(v.Index(i))...)
		}
		return all
	}
	return []reflect.Value{v}
}

// change puts something else for one leaf: another number, an element more or less.
func (d *dice) change(v reflect.Value) {
	switch v.Kind() {
	case reflect.String:
		v.SetString(one(d, []string{"", "ok", "a b", strings.Repeat("n", 33)}))
	case reflect.Int8:
		v.SetInt(int64(one(d, []int{1, -1, 0, 2, -2, 127, -128})))
	case reflect.Slice:
		switch n := v.Len(); d.roll(0, 3) {
		case 0:
			v.SetZero()
		case 1:
			v.Set(reflect.Append(v, reflect.New(v.Type().Elem()).Elem()))
		default:
			if n > 0 {
				v.Set(v.Slice(0, n-1))
			}
		}
	default:
		x := v.Int()
		v.SetInt(one(d, []int64{x + 1, x - 1, -x, 0, 1, 2, 3, 4, 15, 16, 64, 4096, 4097, most, -most, 1<<32 + x, math.MinInt64, math.MaxInt64}))
	}
}

// TestAcceptedExactly: networks with one to three changes anywhere: Of answers just where net.Check does, and its error else.
func TestAcceptedExactly(t *testing.T) {
	d := dice(205)
	seen := map[api.Errno]int{}
	for range 12000 {
		n := net.Clone(one(&d, []api.Net{tiny(), edge(), mixed()}))
		for range d.roll(1, 3) {
			d.change(one(&d, leaves(reflect.ValueOf(&n).Elem())))
		}
		at, e := net.Check(n)
		seen[e]++
		if e == api.OK {
			alike(t, "a changed network", n)
		} else {
			unpacked(t, "a changed network", n, at, e)
		}
	}
	for _, e := range []api.Errno{api.OK, api.ErrName, api.ErrShape, api.ErrLayers, api.ErrWeight, api.ErrNorm, api.ErrBias, api.ErrReach, api.ErrWindow, api.ErrFit} {
		if seen[e] < 20 {
			t.Errorf("the test's own networks: %d are of the error %d", seen[e], e)
		}
	}
}
