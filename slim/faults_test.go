package slim_test

import (
	"reflect"
	"slices"
	"strings"
	"testing"

	"heddle/api"
	"heddle/net"
)

// TestFaultsOfTheNetwork: each error of net.Check, ahead of ErrArg.
func TestFaultsOfTheNetwork(t *testing.T) {
	refused(t, "the zero network", api.Net{}, api.ErrName)
	for _, c := range []struct {
		what string
		do   func(n *api.Net)
		e    api.Errno
	}{
		{"no name", func(n *api.Net) { n.Name = "" }, api.ErrName},
		{"a long name", func(n *api.Net) { n.Name = strings.Repeat("x", 33) }, api.ErrName},
		{"an input that is none", func(n *api.Net) { n.In.W = 0 }, api.ErrShape},
		{"an input that is too big", func(n *api.Net) { n.In = of(4096, 4096, 2) }, api.ErrBig},
		{"no layers", func(n *api.Net) { n.Layers = nil }, api.ErrLayers},
		{"65 layers", func(n *api.Net) { n.Layers = slices.Repeat(n.Layers[:1], 65) }, api.ErrLayers},
		{"an LPool first", func(n *api.Net) { n.Layers = n.Layers[1:] }, api.ErrLayers},
		{"an LConv last", func(n *api.Net) { n.Layers = n.Layers[:5] }, api.ErrLayers},
		{"a kind", func(n *api.Net) { n.Layers[2].Kind = 4 }, api.ErrLayers},
		{"no outputs", func(n *api.Net) { n.Layers[2].K = 0 }, api.ErrShape},
		{"outputs below 0", func(n *api.Net) { n.Layers[5].K = -3 }, api.ErrShape},
		{"an LPool with outputs", func(n *api.Net) { n.Layers[1].K = 3 }, api.ErrLayers},
		{"an LPool with norms", func(n *api.Net) { n.Layers[1].Norms = froms(0, 0, 0) }, api.ErrLayers},
		{"a step", func(n *api.Net) { n.Layers[1].Win.StepX = 0 }, api.ErrWindow},
		{"a border", func(n *api.Net) { n.Layers[4].Border = 2 }, api.ErrWindow},
		{"a window that does not fit", func(n *api.Net) { n.Layers[1].Win.R = 15 }, api.ErrFit},
		{"a kind of weights", func(n *api.Net) { n.Layers[0].Weight = 3 }, api.ErrWeight},
		{"too few weights", func(n *api.Net) { n.Layers[5].Weights = n.Layers[5].Weights[:23] }, api.ErrWeight},
		{"a weight", func(n *api.Net) { n.Layers[3].Weights[9] = 2 }, api.ErrWeight},
		{"nothing in Binary", func(n *api.Net) { n.Layers[5].Weight, n.Layers[5].Weights[7] = api.Binary, 0 }, api.ErrWeight},
		{"too few norms", func(n *api.Net) { n.Layers[0].Norms = n.Layers[0].Norms[:2] }, api.ErrNorm},
		{"a norm", func(n *api.Net) { n.Layers[2].Norms[3].S.Num = 0 }, api.ErrNorm},
		{"a fraction of a dead output", func(n *api.Net) { n.Layers[2].Norms[1].B.Den = 0 }, api.ErrNorm},
		{"a bias too early", func(n *api.Net) { n.Layers[3].Biases = []int64{1, 2} }, api.ErrNorm},
		{"no biases", func(n *api.Net) { n.Layers[5].Biases = nil }, api.ErrBias},
		{"norms at the end", func(n *api.Net) { n.Layers[5].Norms = froms(0, 0, 0) }, api.ErrBias},
		{"a bias beyond the reach", func(n *api.Net) { n.Layers[5].Biases[2] = most - 7 }, api.ErrReach},
		{"a bias beyond the reach, below 0", func(n *api.Net) { n.Layers[5].Biases[0] = -1 << 63 }, api.ErrReach},
		{"two faults", func(n *api.Net) { n.Layers[5].Biases, n.Layers[2].K = nil, 0 }, api.ErrShape},
	} {
		n := mixed()
		c.do(&n)
		if _, e := net.Check(n); e != c.e {
			t.Fatalf("%s: net.Check tells %d", c.what, e)
		}
		refused(t, c.what, n, c.e)
	}
}

// numbers are all whole numbers within v.
func numbers(v reflect.Value) []reflect.Value {
	var all []reflect.Value
	switch v.Kind() {
	case reflect.Struct:
		for i := range v.NumField() {
			all = append(all, numbers(v.Field(i))...)
		}
	case reflect.Slice:
		for i := range v.Len() {
			all = append(all, numbers(v.Index(i))...)
		}
	case reflect.Int, reflect.Int8, reflect.Int64:
		all = append(all, v)
	}
	return all
}

// TestAnyNumbers puts numbers of any size at every place of a network: the answer is net.Check's error, or what becomes of the network.
func TestAnyNumbers(t *testing.T) {
	some := []int64{-1 << 63, -1 << 31, 1 - 1<<31, -2, -1, 0, 1, 2, 3, 4, 5, 15, 16, 4096, 4097, 1 << 20, 1<<31 - 1, 1 << 31, 1<<63 - 1}
	for _, make := range []func() api.Net{mixed, chapter} {
		sample := make()
		for i := range numbers(reflect.ValueOf(&sample).Elem()) {
			for _, v := range some {
				n := make()
				numbers(reflect.ValueOf(&n).Elem())[i].SetInt(v) // an int8 keeps the lowest bits
				if _, e := net.Check(n); e != api.OK {
					refused(t, "a number that may not be", n, e)
					continue
				}
				want, _ := meantSlim(t, n)
				becomes(t, "another number", n, want)
			}
		}
	}
}
