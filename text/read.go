package text

import (
	"strings"

	"heddle/api"
)

// wish is what may stand next in a text. Each is a bit, as a kind of line may be wanted at more than one place.
type wish int

const (
	netLine wish = 1 << iota
	inputLine
	layerLine  // the first line of a layer, or the end
	weightLine // the weights of an output
	ruleLine   // the first norm, or the biases
	normLine   // one more norm
	nothing
)

// kind is a kind of line: where it is wanted, and what reads the words behind the first.
type kind struct {
	wanted wish
	read   func(r *reader, words []string) bool
}

func kinds() map[string]kind {
	return map[string]kind{
		"net":    {netLine, readNet},
		"input":  {inputLine, readInput},
		"conv":   {layerLine, readConv},
		"dense":  {layerLine, readDense},
		"pool":   {layerLine, readPool},
		"w":      {weightLine, readWeights},
		"n":      {ruleLine | normLine, readNorm},
		"biases": {ruleLine, readBiases},
		"end":    {layerLine, readEnd},
	}
}

// reader is what has been read of a text, and what is wanted next.
type reader struct {
	net   api.Net
	next  wish
	left  int // how many lines of the wanted kind the layer still needs
	fanIn int // how many weights the layer's first output has
	line  int

	// Where a fault is told that is found when all has been read.
	netAt, inputAt, endAt int
	layersAt              []int
}

// take reads the words of one line.
func (r *reader) take(all map[string]kind, words []string) api.Errno {
	if len(words) == 0 {
		return api.OK
	}
	k, known := all[words[0]]
	if !known {
		return api.ErrWord
	}
	if k.wanted&r.next == 0 {
		return api.ErrLine
	}
	if !k.read(r, words[1:]) {
		return api.ErrWord
	}
	return api.OK
}

// lineOf is where a fault of the whole network is told, or of a layer.
func (r *reader) lineOf(layer int, e api.Errno) int {
	if layer >= 0 {
		return r.layersAt[layer]
	}
	switch e {
	case api.ErrName:
		return r.netAt
	case api.ErrLayers:
		return r.endAt
	}
	return r.inputAt
}

func readNet(r *reader, words []string) bool {
	r.netAt, r.next = r.line, inputLine
	return fill(words, name(&r.net.Name))
}

func readInput(r *reader, words []string) bool {
	r.inputAt, r.next = r.line, layerLine
	in := &r.net.In
	return fill(words, number(&in.H), number(&in.W), number(&in.C))
}

func readEnd(r *reader, words []string) bool {
	r.endAt, r.next = r.line, nothing
	return fill(words)
}

func readConv(r *reader, words []string) bool {
	l := api.Layer{Kind: api.LConv}
	w := &l.Win
	ok := fill(words, number(&l.K), number(&w.R), number(&w.S),
		mark("step"), number(&w.StepY), number(&w.StepX),
		mark("pad"), number(&w.Top), number(&w.Left), number(&w.Bottom), number(&w.Right),
		mark("border"), number(&l.Border), weightKind(&l.Weight))
	r.begin(l)
	return ok
}

func readDense(r *reader, words []string) bool {
	l := api.Layer{Kind: api.LDense}
	ok := fill(words, number(&l.K), weightKind(&l.Weight))
	r.begin(l)
	return ok
}

func readPool(r *reader, words []string) bool {
	l := api.Layer{Kind: api.LPool}
	w := &l.Win
	ok := fill(words, number(&w.R), number(&w.S), mark("step"), number(&w.StepY), number(&w.StepX))
	r.begin(l)
	return ok
}

// begin adds a layer whose first line has been read. One without outputs, such as a pool, has no more lines.
func (r *reader) begin(l api.Layer) {
	r.net.Layers = append(r.net.Layers, l)
	r.layersAt = append(r.layersAt, r.line)
	if l.K >= 1 {
		r.next, r.left = weightLine, l.K
	}
}

// layer is the one that is being read.
func (r *reader) layer() *api.Layer { return &r.net.Layers[len(r.net.Layers)-1] }

func readWeights(r *reader, words []string) bool {
	l := r.layer()
	before := len(l.Weights)
	for _, word := range words {
		for i := range len(word) {
			at := strings.IndexByte(signs, word[i])
			if at < 0 {
				return false
			}
			l.Weights = append(l.Weights, int8(at-1))
		}
	}
	count := len(l.Weights) - before
	if r.left == l.K {
		r.fanIn = count
	}
	r.left--
	if r.left == 0 {
		r.next, r.left = ruleLine, l.K
	}
	return count == r.fanIn
}

func readNorm(r *reader, words []string) bool {
	var n api.Norm
	ok := fill(words, fraction(&n.G), fraction(&n.B), fraction(&n.M), fraction(&n.S))
	l := r.layer()
	l.Norms = append(l.Norms, n)
	r.next = normLine
	r.left--
	if r.left == 0 {
		r.next = layerLine
	}
	return ok
}

func readBiases(r *reader, words []string) bool {
	biases := make([]int64, len(words))
	places := make([]place, len(words))
	for i := range biases {
		places[i] = number(&biases[i])
	}
	r.layer().Biases = biases
	r.next = layerLine
	return fill(words, places...)
}
