package packed

import "heddle/api"

// reader takes chunks from the front.
type reader struct {
	chunks []api.Chunk
}

// next is the Body of the next chunk, if that has the Tag.
func (r *reader) next(tag uint32) ([]byte, bool) {
	if len(r.chunks) == 0 || r.chunks[0].Tag != tag {
		return nil, false
	}
	body := r.chunks[0].Body
	r.chunks = r.chunks[1:]
	return body, true
}

// sized is the Body of the next chunk, if that has the Tag and the Body so many bytes.
func (r *reader) sized(tag uint32, size int) ([]byte, bool) {
	body, there := r.next(tag)
	if len(body) != size {
		return nil, false
	}
	return body, there
}

// model is the model of which the chunks are, if there is one.
func (r *reader) model() (api.Model, bool) {
	m, count, good := r.head()
	if !good || whole(m.Name, m.In, count) != api.OK {
		return api.Model{}, false
	}
	s := spot{in: m.In, layers: count}
	for range count {
		p, good := r.layer(s)
		if !good {
			return api.Model{}, false
		}
		// The list grows with the layers that are there: the head's word for them is not to cost memory.
		m.Packs = append(m.Packs, p)
		s = s.behind(p)
	}
	return m, len(r.chunks) == 0
}

// head is all of the model but its layers, and how many these are.
func (r *reader) head() (m api.Model, layers int, good bool) {
	body, there := r.next(headTag)
	if !there || len(body) == 0 || len(body) != headSize+int(body[0]) {
		return
	}
	c := cursor{body}
	name := 0
	c.get(1, &name)
	m.Name = string(c.take(name))
	c.get(2, &m.In.H, &m.In.W, &m.In.C)
	c.get(1, &layers)
	return m, layers, true
}

// layer is the layer at a spot, if it is one that may be there.
func (r *reader) layer(s spot) (api.Pack, bool) {
	p, good := r.numbers()
	asked := questionsOf(p.Kind)
	if !good || answer(asked.numbers, p, s) != api.OK {
		return api.Pack{}, false
	}
	if p.Kind != api.LPool && !r.lists(&p, s) {
		return api.Pack{}, false
	}
	return p, answer(asked.lists, p, s) == api.OK
}

// numbers is a layer without its lists.
func (r *reader) numbers() (p api.Pack, good bool) {
	body, there := r.sized(layerTag, layerSize)
	if !there {
		return
	}
	c := cursor{body}
	c.get(1, &p.Kind, &p.Weight)
	c.get(2, &p.K)
	w := &p.Win
	c.get(1, &w.R, &w.S, &w.StepY, &w.StepX, &w.Top, &w.Left, &w.Bottom, &w.Right, &p.Border)
	// The only number of a byte that can be below 0.
	p.Border = int(int8(p.Border))
	return p, true
}

// lists fills in a layer's lists, once it is known that the bytes of all of them are there.
func (r *reader) lists(p *api.Pack, s spot) bool {
	l := layOf(*p, s.in)
	tag, size := uint32(threshTag), threshSize
	if s.last() {
		tag, size = biasTag, numberSize
	}
	weights, there := r.sized(weightTag, pairBytes(p.K*l.weights()))
	if !there {
		return false
	}
	ends, there := r.sized(tag, p.K*size)
	if !there {
		return false
	}
	if s.last() {
		p.Biases = biasesIn(ends, p.K)
	} else {
		p.Threshes = threshesIn(ends, p.K)
	}
	var good bool
	p.Rows, good = rowsIn(weights, p.K, l)
	return good
}

func biasesIn(body []byte, count int) []int64 {
	c := cursor{body}
	list := make([]int64, count)
	for i := range list {
		list[i] = c.number(numberSize)
	}
	return list
}

func threshesIn(body []byte, count int) []api.Thresh {
	c := cursor{body}
	list := make([]api.Thresh, count)
	for i := range list {
		c.get(modeSize, &list[i].Mode)
		list[i].T = c.number(numberSize)
	}
	return list
}

// rowsIn is the rows whose weights the bytes are, if they are such.
func rowsIn(body []byte, count int, l lay) ([]api.Row, bool) {
	weights := pairReader{bytes: body}
	list := make([]api.Row, count)
	for i := range list {
		list[i] = l.blank()
		for words := range l.cut(list[i]) {
			for c := range l.channels {
				words.set(c, weights.next())
			}
		}
	}
	return list, weights.end()
}
