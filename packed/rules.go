package packed

import (
	"heddle/api"
	"heddle/fold"
	"heddle/shape"
)

// whole asks what is asked of a model ahead of its layers.
func whole(name string, in api.Shape, layers int) api.Errno {
	if !isName(name) {
		return api.ErrName
	}
	if e := shape.Check(in); e != api.OK {
		return e
	}
	return unless(1 <= layers && layers <= api.MaxLayers, api.ErrLayers)
}

func isName(s string) bool {
	if len(s) < 1 || len(s) > api.MaxName {
		return false
	}
	for i := range len(s) {
		if !inName(s[i]) {
			return false
		}
	}
	return true
}

// inName tells whether a byte may stand in a name.
func inName(b byte) bool {
	return 'a' <= b && b <= 'z' || 'A' <= b && b <= 'Z' || '0' <= b && b <= '9' || b == '_' || b == '-'
}

// question asks one thing of a layer that stands at a spot; it may rely on what was asked ahead of it.
type question func(p api.Pack, s spot) api.Errno

// questions are what is asked of a kind of layer, in the order in which its faults are told. What numbers alone tell comes first in the document too, so a reader can ask it before it makes room for lists.
type questions struct {
	numbers, lists []question
}

func questionsOf(kind int) questions {
	switch kind {
	case api.LConv:
		return questions{
			[]question{notLast, outputs, window, border, slides, weightKind, weightRoom},
			[]question{rows, threshes, reach},
		}
	case api.LDense:
		return questions{
			[]question{outputs, noWindow, weightKind, weightRoom},
			[]question{rows, ending, reach},
		}
	case api.LPool:
		return questions{[]question{notFirst, notLast, onlyWindow, window, noBorders, slides}, nil}
	}
	return questions{[]question{noKind}, nil}
}

// fault is the first fault of a layer.
func fault(p api.Pack, s spot) api.Errno {
	asked := questionsOf(p.Kind)
	if e := answer(asked.numbers, p, s); e != api.OK {
		return e
	}
	return answer(asked.lists, p, s)
}

// answer is the first error that one of the questions gives.
func answer(list []question, p api.Pack, s spot) api.Errno {
	for _, ask := range list {
		if e := ask(p, s); e != api.OK {
			return e
		}
	}
	return api.OK
}

// unless is e, if what should hold does not.
func unless(holds bool, e api.Errno) api.Errno {
	if holds {
		return api.OK
	}
	return e
}

func noKind(p api.Pack, s spot) api.Errno { return api.ErrLayers }

func notFirst(p api.Pack, s spot) api.Errno { return unless(!s.first(), api.ErrLayers) }

func notLast(p api.Pack, s spot) api.Errno { return unless(!s.last(), api.ErrLayers) }

func outputs(p api.Pack, s spot) api.Errno {
	return unless(1 <= p.K && p.K <= api.MaxSide, api.ErrShape)
}

func noWindow(p api.Pack, s spot) api.Errno {
	return unless(p.Win == api.Window{} && p.Border == 0, api.ErrLayers)
}

func onlyWindow(p api.Pack, s spot) api.Errno {
	numbers := p.Weight == 0 && p.K == 0 && p.Border == 0
	lists := len(p.Rows) == 0 && len(p.Threshes) == 0 && len(p.Biases) == 0
	return unless(numbers && lists, api.ErrLayers)
}

func window(p api.Pack, s spot) api.Errno { return shape.Window(p.Win) }

// bordered tells whether a window goes beyond the tensor.
func bordered(w api.Window) bool { return w.Top != 0 || w.Left != 0 || w.Bottom != 0 || w.Right != 0 }

func noBorders(p api.Pack, s spot) api.Errno { return unless(!bordered(p.Win), api.ErrWindow) }

func border(p api.Pack, s spot) api.Errno {
	seen := bordered(p.Win) && (p.Border == 1 || p.Border == -1)
	return unless(seen || p.Border == 0, api.ErrWindow)
}

func slides(p api.Pack, s spot) api.Errno {
	_, e := output(p, s.in)
	return e
}

func weightKind(p api.Pack, s spot) api.Errno {
	return unless(p.Weight == api.Binary || p.Weight == api.Ternary, api.ErrWeight)
}

func weightRoom(p api.Pack, s spot) api.Errno {
	return unless(s.ahead+p.K*layOf(p, s.in).weights() <= api.MaxElems, api.ErrBig)
}

func rows(p api.Pack, s spot) api.Errno {
	if len(p.Rows) != p.K {
		return api.ErrWeight
	}
	l := layOf(p, s.in)
	for _, r := range p.Rows {
		if !l.mayBe(r, p.Weight) {
			return api.ErrWeight
		}
	}
	return api.OK
}

func threshes(p api.Pack, s spot) api.Errno {
	if len(p.Threshes) != p.K || len(p.Biases) != 0 {
		return api.ErrThresh
	}
	for _, t := range p.Threshes {
		if e := fold.Check(t); e != api.OK {
			return e
		}
	}
	return api.OK
}

// ending asks for what is done with the sums: the logits get biases, all others thresholds.
func ending(p api.Pack, s spot) api.Errno {
	if !s.last() {
		return threshes(p, s)
	}
	return unless(len(p.Biases) == p.K && len(p.Threshes) == 0, api.ErrBias)
}

// reach asks whether every sum, with its bias if it has one, stays within MaxSum.
func reach(p api.Pack, s spot) api.Errno {
	greatest := 1
	if s.first() {
		greatest = 128 // what an input's byte can be, in amount
	}
	left := int64(api.MaxSum - layOf(p, s.in).weights()*greatest)
	if left < 0 {
		return api.ErrReach
	}
	for _, b := range p.Biases {
		if b < -left || b > left {
			return api.ErrReach
		}
	}
	return api.OK
}
