package packed

import "heddle/api"

// head is the chunk of all but the layers.
func head(m api.Model) api.Chunk {
	b := put(nil, 1, len(m.Name))
	b = append(b, m.Name...)
	b = put(b, 2, m.In.H, m.In.W, m.In.C)
	b = put(b, 1, len(m.Packs))
	return api.Chunk{Tag: headTag, Body: b}
}

// written is the chunks of a layer.
func written(p api.Pack, s spot) []api.Chunk {
	chunks := []api.Chunk{{Tag: layerTag, Body: numbersOf(p)}}
	if p.Kind == api.LPool {
		return chunks
	}
	chunks = append(chunks, api.Chunk{Tag: weightTag, Body: weightsOf(p, layOf(p, s.in))})
	if s.last() {
		return append(chunks, api.Chunk{Tag: biasTag, Body: put(nil, numberSize, p.Biases...)})
	}
	return append(chunks, api.Chunk{Tag: threshTag, Body: threshesOf(p)})
}

func numbersOf(p api.Pack) []byte {
	b := put(nil, 1, p.Kind, p.Weight)
	b = put(b, 2, p.K)
	w := p.Win
	return put(b, 1, w.R, w.S, w.StepY, w.StepX, w.Top, w.Left, w.Bottom, w.Right, p.Border)
}

func weightsOf(p api.Pack, l lay) []byte {
	w := pairWriter{bytes: make([]byte, pairBytes(p.K*l.weights()))}
	for _, r := range p.Rows {
		for words := range l.cut(r) {
			for c := range l.channels {
				w.add(words.at(c))
			}
		}
	}
	return w.bytes
}

func threshesOf(p api.Pack) []byte {
	var b []byte
	for _, t := range p.Threshes {
		b = put(b, modeSize, t.Mode)
		b = put(b, numberSize, t.T)
	}
	return b
}
