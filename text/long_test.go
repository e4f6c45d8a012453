package text_test

import (
	"runtime"
	"slices"
	"strings"
	"testing"

	"heddle/api"
	"heddle/net"
	"heddle/text"
)

// ones are n weights of 1.
func ones(n int) []int8 { return slices.Repeat([]int8{1}, n) }

func dense(k, fanIn int, n api.Norm) api.Layer {
	return api.Layer{Kind: api.LDense, Weight: api.Binary, K: k, Weights: ones(k * fanIn), Norms: slices.Repeat([]api.Norm{n}, k)}
}

func last(k, fanIn int) api.Layer {
	return api.Layer{Kind: api.LDense, Weight: api.Binary, K: k, Weights: ones(k * fanIn), Biases: make([]int64, k)}
}

// look is a convolution of the widest window, over a single place.
func look(k, channels int) api.Layer {
	return api.Layer{Kind: api.LConv, Weight: api.Binary, K: k, Win: win(15, 15, 1, 1, 7, 7, 7, 7), Weights: ones(k * 225 * channels), Norms: slices.Repeat([]api.Norm{step()}, k)}
}

// greats are networks whose texts have some bytes fewer than MaxText, each most of them of another kind.
func greats() map[string]api.Net {
	long := norm(fr(-2147483647, 1048575), fr(-2147483647, 1048575), fr(-2147483647, 1048575), fr(2147483647, 1048575))
	norms := api.Net{Name: "norms", In: of(1, 1, 1)}
	places := api.Net{Name: "places", In: of(1, 1, 1)}
	for range 11 {
		norms.Layers = append(norms.Layers, dense(4096, 1, long), dense(1, 4096, step()))
	}
	for range 2 {
		places.Layers = append(places.Layers, look(4096, 1), dense(1, 4096, step()))
	}
	norms.Layers = append(norms.Layers, dense(3500, 1, long), dense(1, 3500, step()), last(1000, 1))
	places.Layers = append(places.Layers, look(800, 1), dense(1, 800, step()), last(1000, 1))
	return map[string]api.Net{
		"weights of a dense layer": {Name: "w", In: of(1, 1, 4096), Layers: []api.Layer{last(1022, 4096)}},
		"norms":                    norms,
		"places of windows":        places,
		"channels":                 {Name: "c", In: of(1, 1, 60), Layers: []api.Layer{look(300, 60), last(200, 300)}},
	}
}

// sized is a network with more last outputs and longer biases, until its text has so many bytes.
func sized(t *testing.T, n api.Net, size int) api.Net {
	t.Helper()
	n = net.Clone(n)
	n.Name = "a"
	end := &n.Layers[len(n.Layers)-1]
	clear(end.Biases)
	fanIn := len(end.Weights) / end.K
	// One output more is a row, its end, its first word, and a bias.
	for missing := size - len(spelled(n)); missing > (fanIn+5)+8+end.K*2; missing -= fanIn + 5 {
		end.K++
		end.Weights = append(end.Weights, ones(fanIn)...)
		end.Biases = append(end.Biases, 0)
	}
	missing := size - len(spelled(n))
	for i := 0; i < len(end.Biases) && missing > 0; i++ {
		noughts := min(9, missing)
		end.Biases[i] = tens(noughts)
		missing -= noughts
	}
	if missing != 0 || len(spelled(n)) != size {
		t.Fatalf("the test's own network has %d bytes, not %d", len(spelled(n)), size)
	}
	return n
}

// tens is a number with so many noughts.
func tens(noughts int) int64 {
	v := int64(1)
	for range noughts {
		v *= 10
	}
	return v
}

// TestPrintAtMaxText: texts of MaxText bytes are made, and read back; of one more they are refused.
func TestPrintAtMaxText(t *testing.T) {
	for what, n := range greats() {
		for _, size := range []int{api.MaxText - 1, api.MaxText, api.MaxText + 1, api.MaxText + 2} {
			n := sized(t, n, size)
			if at, e := net.Check(n); e != api.OK {
				t.Fatalf("the test's own network may not be: %s: %d, %d", what, at, e)
			}
			s := spelled(n)
			if size > api.MaxText {
				unprinted(t, what, n, api.ErrLong)
				refused(t, what, s, 0, api.ErrLong)
				continue
			}
			prints(t, what, n, s)
			reads(t, what, s, n)
		}
	}
}

// full has as many weights as may be.
func full() api.Net {
	return api.Net{Name: "full", In: of(1, 1, 4096), Layers: []api.Layer{last(4096, 4096)}}
}

// TestPrintIsRefusedWithoutAText: no memory as large as the text is taken.
func TestPrintIsRefusedWithoutAText(t *testing.T) {
	places := api.Net{Name: "places", In: of(1, 1, 16), Layers: []api.Layer{look(4096, 16), last(1, 4096)}}
	for what, n := range map[string]api.Net{"weights": full(), "places": places} {
		if at, e := net.Check(n); e != api.OK {
			t.Fatalf("the test's own network may not be: %s: %d, %d", what, at, e)
		}
		var before, after runtime.MemStats
		runtime.ReadMemStats(&before)
		_, e := text.Print(n)
		runtime.ReadMemStats(&after)
		if taken := after.TotalAlloc - before.TotalAlloc; e != api.ErrLong || taken > 1<<20 {
			t.Errorf("P7.2: %s: %d, with %d bytes of memory", what, e, taken)
		}
	}
}

// TestFaultsAheadOfLong: what may not be is told so, however long its text would be.
func TestFaultsAheadOfLong(t *testing.T) {
	unprinted(t, "as it may be", full(), api.ErrLong)
	for e, do := range map[api.Errno]func(n *api.Net){
		api.ErrName:   func(n *api.Net) { n.Name = "" },
		api.ErrShape:  func(n *api.Net) { n.In.C = 4097 },
		api.ErrLayers: func(n *api.Net) { n.Layers[0].Border = 1 },
		api.ErrWeight: func(n *api.Net) { n.Layers[0].Weights[1<<24-1] = 0 },
		api.ErrBias:   func(n *api.Net) { n.Layers[0].Biases = nil },
		api.ErrReach:  func(n *api.Net) { n.Layers[0].Biases[4095] = 1 << 31 },
	} {
		n := full()
		do(&n)
		unprinted(t, "long, with a fault", n, e)
	}
}

// TestTextsThatAreLonger: a text may be shorter than the one that Print would make.
func TestTextsThatAreLonger(t *testing.T) {
	n := api.Net{Name: "dense", In: of(1, 1, 1)}
	for range 4 {
		n.Layers = append(n.Layers, look(4096, 1), dense(1, 4096, step()))
	}
	n.Layers = append(n.Layers, last(1, 1))
	s := strings.ReplaceAll(spelled(n), "+ +", "++")
	s = strings.ReplaceAll(s, "+ +", "++")
	if len(s) > api.MaxText || len(spelled(n)) <= api.MaxText {
		t.Fatalf("the test's own texts have %d and %d bytes", len(s), len(spelled(n)))
	}
	reads(t, "weights in one word", s, n)
	back, _, _ := text.Parse(s)
	if u, e := text.Print(back); u != "" || e != api.ErrLong {
		t.Errorf("P7.3: %d, %.60q", e, u)
	}
}

// TestLongAtEachKindOfLine: where the text grows too long is not to be seen.
func TestLongAtEachKindOfLine(t *testing.T) {
	n := api.Net{Name: "a", In: of(1, 1, 4096), Layers: []api.Layer{dense(1020, 4096, step()), last(1, 1020)}}
	tail := "dense 1 binary\nw " + strings.Repeat("+", 1020) + "\nbiases 0\nend\n"
	missing := api.MaxText - 20 - len(strings.TrimSuffix(spelled(n), tail))
	for i := 0; missing > 0; i++ {
		noughts := min(9, missing)
		n.Layers[0].Norms[i].G.Num = tens(noughts)
		missing -= noughts
	}
	if ahead := len(spelled(n)) - len(tail); ahead != api.MaxText-20 {
		t.Fatalf("the test's own network has %d bytes ahead of its last layer", ahead)
	}
	for size := 1; size <= 32; size++ {
		n.Name = strings.Repeat("a", size)
		unprinted(t, "too long at a layer's first line, or beside it", n, api.ErrLong)
	}
	norms := greats()["norms"]
	norms.Layers = slices.Concat(norms.Layers[:22], norms.Layers[:22], norms.Layers[24:])
	unprinted(t, "too long at a norm", norms, api.ErrLong)
}
