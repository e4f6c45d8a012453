package slim_test

import (
	"testing"

	"heddle/api"
	"heddle/net"
	"heddle/slim"
)

// chapter is the document's network.
func chapter() api.Net {
	norms := []api.Norm{from(0), {G: fr(1, 1), B: fr(2, 4), M: fr(-510, 1), S: fr(1, 1)}, {G: fr(1, 1), B: fr(0, 1), M: fr(600, 2), S: fr(1, 1)}}
	return network(of(1, 1, 2), binary(dense(read("++ +- --"), norms...)), last(read("+-+ 0++"), 3, 0))
}

// chapterSlim is what becomes of it.
func chapterSlim() api.Net {
	return network(of(1, 1, 2), binary(dense(read("++"), from(0))), last(read("+ 0"), 1, 0))
}

func TestDeadOfTheDocument(t *testing.T) {
	dead(t, "the chapter's", chapter(), 0, 1, 2)
	dead(t, "the chapter's", chapter(), 1)
	for _, layer := range []int{2, -1} {
		if l, e := slim.Dead(chapter(), layer); e != api.ErrArg || len(l) != 0 {
			t.Errorf("P18.1: Dead(%d) = %v, %d", layer, l, e)
		}
	}
}

func TestSlimOfTheDocument(t *testing.T) {
	becomes(t, "the chapter's", chapter(), chapterSlim())

	all := chapter()
	all.Layers[0].Norms = []api.Norm{never(), always(), never()}
	want := chapterSlim()
	want.Layers[0].Norms = []api.Norm{never()}
	becomes(t, "all outputs dead", all, want)

	between := chapter()
	between.Layers = []api.Layer{between.Layers[0], pool(point()), between.Layers[1]}
	want = net.Clone(between)
	want.Layers[0].Norms[1].B, want.Layers[0].Norms[2].M = fr(1, 2), fr(300, 1)
	becomes(t, "an LPool between", between, want)

	bad := chapter()
	bad.Layers[1].Biases = nil
	refused(t, "a network that may not be", bad, api.ErrBias)
}
