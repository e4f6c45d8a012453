package packed

import (
	"iter"

	"heddle/api"
	"heddle/shape"
)

// spot is where a layer stands: what must be known of the model to tell whether the layer may be there.
type spot struct {
	in            api.Shape // of what comes in
	ahead         int       // weights of the layers ahead
	layer, layers int       // its number, and how many there are
}

func (s spot) first() bool { return s.layer == 0 }

func (s spot) last() bool { return s.layer == s.layers-1 }

// behind is the next spot; the layer must be one that may be.
func (s spot) behind(p api.Pack) spot {
	s.ahead += p.K * layOf(p, s.in).weights()
	s.in, _ = output(p, s.in)
	s.layer++
	return s
}

// layers are a model's layers with their spots. What is behind a layer is reckoned only once it is asked for, so that who finds a fault may stop there.
func layers(m api.Model) iter.Seq2[spot, api.Pack] {
	return func(yield func(spot, api.Pack) bool) {
		s := spot{in: m.In, layers: len(m.Packs)}
		for _, p := range m.Packs {
			if !yield(s, p) {
				return
			}
			s = s.behind(p)
		}
	}
}

// output is the shape of what a layer gives.
func output(p api.Pack, in api.Shape) (api.Shape, api.Errno) {
	switch p.Kind {
	case api.LDense:
		return api.Shape{H: 1, W: 1, C: p.K}, api.OK
	case api.LPool:
		return shape.Slide(in, p.Win, in.C)
	}
	return shape.Slide(in, p.Win, p.K)
}
