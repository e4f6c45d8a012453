package bound_test

import (
	"testing"

	"heddle/api"
)

func TestRowsOfTheDocument(t *testing.T) {
	for _, c := range []struct {
		w       string
		x, want api.Reach
		e       api.Errno
	}{
		{"++-0", reach(-1, 1), reach(-3, 3), api.OK},
		{"++-0", reach(0, 5), reach(-5, 10), api.OK},
		{"--", reach(2, 3), reach(-6, -4), api.OK},
		{"000", reach(-9, 4), reach(0, 0), api.OK},
		{"", reach(7, 8), reach(0, 0), api.OK},
		{"+", reach(2, 1), api.Reach{}, api.ErrArg},
		{"+", reach(-2147483648, 0), api.Reach{}, api.ErrArg},
		{"++", reach(0, 2147483647), api.Reach{}, api.ErrReach},
	} {
		row(t, c.w, packed(t, read(c.w)), c.x, c.want, c.e)
	}
}

// tiny is doc/22's network of that name.
func tiny() api.Net {
	n := network(of(1, 1, 3), last(read("+0-+++"), 5, -5))
	n.Name = "tiny"
	return n
}

// edge is doc/22's network of that name, with a Border.
func edge(border int) api.Net {
	n := network(of(2, 2, 1), conv(win(3, 3, 1, 1, 1, 1, 1, 1), border, read("+++++++++"), from(0)), last(read("+++++-+-"), 0, 0))
	n.Name, n.Layers[0].Weight, n.Layers[1].Weight = "edge", api.Binary, api.Binary
	return n
}

func TestNetsOfTheDocument(t *testing.T) {
	tells(t, "tiny", tiny(), [][]api.Reach{{reach(-250, 260), reach(-389, 376)}})
	for border := -1; border <= 1; border++ {
		n := edge(border)
		tells(t, "edge", n, [][]api.Reach{{reach(-1152, 1143)}, {reach(-4, 4), reach(-4, 4)}})
		end := last(read("+-"), 0, 0)
		end.Weight = api.Binary
		n.Layers = []api.Layer{n.Layers[0], pool(win(2, 2, 1, 1, 0, 0, 0, 0)), end}
		tells(t, "edge with an LPool between", n, [][]api.Reach{{reach(-1152, 1143)}, {reach(-1, 1)}, {reach(-1, 1), reach(-1, 1)}})
	}
}
