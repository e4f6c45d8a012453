package net

import (
	"heddle/api"
	"heddle/shape"
)

// spot is where a layer stands: what must be known of the network to tell whether the layer may be there.
type spot struct {
	in          api.Shape // of what comes in
	ahead       int       // weights of the layers ahead
	first, last bool
}

// walk goes through a network up to its first fault: the shapes of all outputs, or where the fault is and which.
func walk(n api.Net) ([]api.Shape, int, api.Errno) {
	if e := whole(n); e != api.OK {
		return nil, -1, e
	}
	asked := points()
	shapes := make([]api.Shape, len(n.Layers))
	s := spot{in: n.In}
	for i, l := range n.Layers {
		s.first, s.last = i == 0, i == len(n.Layers)-1
		if e := fault(asked, l, s); e != api.OK {
			return nil, i, e
		}
		s.ahead += weightCount(l, s.in)
		// The points have asked already whether there is an output.
		s.in, _ = output(l, s.in)
		shapes[i] = s.in
	}
	return shapes, 0, api.OK
}

// whole asks what is asked of a network ahead of its layers.
func whole(n api.Net) api.Errno {
	if !isName(n.Name) {
		return api.ErrName
	}
	if e := shape.Check(n.In); e != api.OK {
		return e
	}
	if len(n.Layers) < 1 || len(n.Layers) > api.MaxLayers {
		return api.ErrLayers
	}
	return api.OK
}

func isName(s string) bool {
	if len(s) < 1 || len(s) > api.MaxName {
		return false
	}
	for i := range len(s) {
		if !inName(s[i]) {
			return false
		}
	}
	return true
}

// inName tells whether a byte may stand in a name.
func inName(b byte) bool {
	return 'a' <= b && b <= 'z' || 'A' <= b && b <= 'Z' || '0' <= b && b <= '9' || b == '_' || b == '-'
}

// output is the shape of what a layer gives.
func output(l api.Layer, in api.Shape) (api.Shape, api.Errno) {
	switch l.Kind {
	case api.LDense:
		return api.Shape{H: 1, W: 1, C: l.K}, api.OK
	case api.LPool:
		return shape.Slide(in, l.Win, in.C)
	}
	return shape.Slide(in, l.Win, l.K)
}

// fanIn is how many weights an output has; the window must have been asked ahead of it.
func fanIn(l api.Layer, in api.Shape) int {
	if l.Kind == api.LDense {
		return in.H * in.W * in.C
	}
	return l.Win.R * l.Win.S * in.C
}

// weightCount is how many weights a layer should have; those of an LPool, whose K is 0, are none.
func weightCount(l api.Layer, in api.Shape) int { return l.K * fanIn(l, in) }
