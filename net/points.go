package net

import (
	"heddle/api"
	"heddle/frac"
	"heddle/shape"
)

// question asks one thing of a layer that stands at a spot; it may rely on what was asked ahead of it.
type question func(l api.Layer, s spot) api.Errno

// points is what is asked of each kind of layer, in the order in which faults are told.
func points() map[int][]question {
	return map[int][]question{
		api.LConv: {
			notLast,
			outputs,
			window, border, fits,
			weightKind, weightRoom, weights,
			norms,
			reach,
		},
		api.LDense: {
			outputs, noWindow,
			weightKind, weightRoom, weights,
			ending,
			reach,
		},
		api.LPool: {
			notFirst, notLast,
			onlyWindow,
			window, noBorders, fits,
		},
	}
}

// fault is the first fault of a layer.
func fault(asked map[int][]question, l api.Layer, s spot) api.Errno {
	row, known := asked[l.Kind]
	if !known {
		return api.ErrLayers
	}
	for _, ask := range row {
		if e := ask(l, s); e != api.OK {
			return e
		}
	}
	return api.OK
}

// unless is e, if what should hold does not.
func unless(holds bool, e api.Errno) api.Errno {
	if holds {
		return api.OK
	}
	return e
}

func notFirst(l api.Layer, s spot) api.Errno { return unless(!s.first, api.ErrLayers) }

func notLast(l api.Layer, s spot) api.Errno { return unless(!s.last, api.ErrLayers) }

func outputs(l api.Layer, s spot) api.Errno {
	return unless(1 <= l.K && l.K <= api.MaxSide, api.ErrShape)
}

func noWindow(l api.Layer, s spot) api.Errno {
	return unless(l.Win == api.Window{} && l.Border == 0, api.ErrLayers)
}

func onlyWindow(l api.Layer, s spot) api.Errno {
	numbers := l.K == 0 && l.Weight == 0 && l.Border == 0
	lists := len(l.Weights) == 0 && len(l.Norms) == 0 && len(l.Biases) == 0
	return unless(numbers && lists, api.ErrLayers)
}

func window(l api.Layer, s spot) api.Errno { return shape.Window(l.Win) }

// bordered tells whether a window goes beyond the tensor.
func bordered(w api.Window) bool { return w.Top != 0 || w.Left != 0 || w.Bottom != 0 || w.Right != 0 }

func noBorders(l api.Layer, s spot) api.Errno { return unless(!bordered(l.Win), api.ErrWindow) }

func border(l api.Layer, s spot) api.Errno {
	seen := bordered(l.Win) && (l.Border == 1 || l.Border == -1)
	return unless(seen || l.Border == 0, api.ErrWindow)
}

func fits(l api.Layer, s spot) api.Errno {
	_, e := output(l, s.in)
	return e
}

func weightKind(l api.Layer, s spot) api.Errno {
	return unless(l.Weight == api.Binary || l.Weight == api.Ternary, api.ErrWeight)
}

func weightRoom(l api.Layer, s spot) api.Errno {
	return unless(s.ahead+weightCount(l, s.in) <= api.MaxElems, api.ErrBig)
}

func weights(l api.Layer, s spot) api.Errno {
	if len(l.Weights) != weightCount(l, s.in) {
		return api.ErrWeight
	}
	for _, w := range l.Weights {
		if w < -1 || w > 1 || w == 0 && l.Weight == api.Binary {
			return api.ErrWeight
		}
	}
	return api.OK
}

func norms(l api.Layer, s spot) api.Errno {
	if len(l.Norms) != l.K || len(l.Biases) != 0 {
		return api.ErrNorm
	}
	for _, n := range l.Norms {
		// A fraction that may not be is here a fault of its norm.
		if frac.Norm(n) != api.OK {
			return api.ErrNorm
		}
	}
	return api.OK
}

// ending asks for what is done with the sums: the logits get biases, all others norms.
func ending(l api.Layer, s spot) api.Errno {
	if !s.last {
		return norms(l, s)
	}
	return unless(len(l.Biases) == l.K && len(l.Norms) == 0, api.ErrBias)
}

// reach asks whether every sum, with its bias if it has one, stays within MaxSum.
func reach(l api.Layer, s spot) api.Errno {
	greatest := 1
	if s.first {
		greatest = 128 // what an input's byte can be, in amount
	}
	left := api.MaxSum - int64(fanIn(l, s.in)*greatest)
	if left < 0 {
		return api.ErrReach
	}
	for _, b := range l.Biases {
		if b < -left || b > left {
			return api.ErrReach
		}
	}
	return api.OK
}
