package text

import (
	"iter"
	"strconv"
	"strings"

	"heddle/api"
	"heddle/frac"
)

// row is a line that is to be written: words, and behind them weights, so many a word, whose signs are not made until then.
type row struct {
	words   string
	weights []int8
	each    int
}

// size is how many bytes a line has, its end among them.
func (r row) size() int {
	size := len(r.words) + 1
	if len(r.weights) > 0 {
		size += len(r.weights) + len(r.weights)/r.each
	}
	return size
}

func (r row) write(out *strings.Builder) {
	out.WriteString(r.words)
	for i, w := range r.weights {
		if i%r.each == 0 {
			out.WriteByte(' ')
		}
		out.WriteByte(signs[w+1])
	}
	out.WriteByte('\n')
}

// size is how many bytes a network's text has; of one that is too long it may tell fewer, but more than MaxText.
func size(n api.Net) int {
	total := 0
	for r := range rows(n) {
		total += r.size()
		if total > api.MaxText {
			break
		}
	}
	return total
}

// rows goes through the lines of a network that may be.
func rows(n api.Net) iter.Seq[row] {
	return func(yield func(row) bool) {
		if !yield(plain("net", n.Name)) || !yield(plain("input", spell(n.In.H, n.In.W, n.In.C))) {
			return
		}
		for _, l := range n.Layers {
			for r := range layerRows(l) {
				if !yield(r) {
					return
				}
			}
		}
		yield(plain("end"))
	}
}

// layerRows goes through the lines of a layer. A pool has no outputs, so it has the first one alone.
func layerRows(l api.Layer) iter.Seq[row] {
	return func(yield func(row) bool) {
		if !yield(firstRow(l)) {
			return
		}
		for k := range l.K {
			if !yield(weightRow(l, k)) {
				return
			}
		}
		for _, n := range l.Norms {
			if !yield(plain("n", show(n.G), show(n.B), show(n.M), show(n.S))) {
				return
			}
		}
		if len(l.Biases) > 0 {
			yield(plain("biases", spell(l.Biases...)))
		}
	}
}

func firstRow(l api.Layer) row {
	w := l.Win
	switch l.Kind {
	case api.LConv:
		return plain("conv", spell(l.K, w.R, w.S), "step", spell(w.StepY, w.StepX),
			"pad", spell(w.Top, w.Left, w.Bottom, w.Right), "border", spell(l.Border), weightNames[l.Weight-api.Binary])
	case api.LDense:
		return plain("dense", spell(l.K), weightNames[l.Weight-api.Binary])
	}
	return plain("pool", spell(w.R, w.S), "step", spell(w.StepY, w.StepX))
}

// weightRow is the line of an output's weights: a word for each place of a convolution's window, of a dense layer one.
func weightRow(l api.Layer, output int) row {
	fanIn := len(l.Weights) / l.K
	places := max(l.Win.R*l.Win.S, 1)
	return row{words: "w", weights: l.Weights[output*fanIn:][:fanIn], each: fanIn / places}
}

// plain is a line without weights.
func plain(words ...string) row { return row{words: strings.Join(words, " ")} }

// spell writes numbers one behind the other.
func spell[T int | int64](numbers ...T) string {
	var out []byte
	for i, v := range numbers {
		if i > 0 {
			out = append(out, ' ')
		}
		out = strconv.AppendInt(out, int64(v), 10)
	}
	return string(out)
}

// show writes a fraction that was found to be one.
func show(f api.Frac) string {
	s, _ := frac.Show(f)
	return s
}
