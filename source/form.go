package source

import (
	"heddle/api"
	"heddle/shape"
)

// part is a piece of a layer's Body: what writes it, and what reads it.
type part struct {
	write func(w *writer, l api.Layer)
	read  func(r *reader, l *api.Layer)
}

// kind is what the form says of a kind of layer.
type kind struct {
	number int
	tag    uint32
	parts  []part // of the Body, in order
	out    func(in api.Shape, l api.Layer) (api.Shape, api.Errno)
}

func kinds() []kind {
	return []kind{
		{api.LConv, 2, []part{weightKind(), outputs(), window(), border(), weights(seen), norms()}, slid},
		{api.LDense, 3, []part{weightKind(), outputs(), weights(whole), ending()}, flat},
		{api.LPool, 4, []part{window()}, pooled},
	}
}

func weightKind() part {
	return part{
		func(w *writer, l api.Layer) { put[uint8](w, l.Weight) },
		func(r *reader, l *api.Layer) { get[uint8](r, &l.Weight) },
	}
}

func outputs() part {
	return part{
		func(w *writer, l api.Layer) { put[uint16](w, l.K) },
		func(r *reader, l *api.Layer) { get[uint16](r, &l.K) },
	}
}

func window() part {
	return part{
		func(w *writer, l api.Layer) { w.window(l.Win) },
		func(r *reader, l *api.Layer) { l.Win = r.window() },
	}
}

func border() part {
	return part{
		func(w *writer, l api.Layer) { put[int8](w, l.Border) },
		func(r *reader, l *api.Layer) { get[int8](r, &l.Border) },
	}
}

// weights: how many there are does not stand in the Body, but follows from what comes in.
func weights(fanIn func(in api.Shape, l api.Layer) int) part {
	return part{
		func(w *writer, l api.Layer) { w.weights(l.Weights) },
		func(r *reader, l *api.Layer) { l.Weights = r.weights(l.K * fanIn(r.in, *l)) },
	}
}

func norms() part {
	return part{
		func(w *writer, l api.Layer) { w.norms(l.Norms) },
		func(r *reader, l *api.Layer) { l.Norms = r.norms(l.K) },
	}
}

// ending is what is done with the sums: the last layer has biases, all others norms.
func ending() part {
	return part{
		func(w *writer, l api.Layer) {
			// One of these is empty, or the network would not be one that may be.
			w.norms(l.Norms)
			w.biases(l.Biases)
		},
		func(r *reader, l *api.Layer) {
			if r.last() {
				l.Biases = r.biases(l.K)
			} else {
				l.Norms = r.norms(l.K)
			}
		},
	}
}

// seen is how many elements a window sees at a place.
func seen(in api.Shape, l api.Layer) int { return l.Win.R * l.Win.S * in.C }

// whole is how many elements come in.
func whole(in api.Shape, l api.Layer) int { return in.H * in.W * in.C }

func slid(in api.Shape, l api.Layer) (api.Shape, api.Errno) { return shape.Slide(in, l.Win, l.K) }

func pooled(in api.Shape, l api.Layer) (api.Shape, api.Errno) { return shape.Slide(in, l.Win, in.C) }

func flat(in api.Shape, l api.Layer) (api.Shape, api.Errno) {
	out := api.Shape{H: 1, W: 1, C: l.K}
	return out, shape.Check(out)
}
