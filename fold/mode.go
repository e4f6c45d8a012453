package fold

import "heddle/api"

// mode is what a Mode means.
type mode struct {
	plus      func(x, t int64) bool // whether the sum x becomes plus, where T is t
	low, high int64                 // between which T may be, both among them
	g, b      int64                 // G and B of the norm that means the same; its M is T, its S 1
}

// modeOf is what a Mode means. A number that is none makes no sum plus, and leaves nothing that T may be.
func modeOf(number int) mode {
	modes := [...]mode{
		0:             {plus: never, low: 1, high: 0},
		api.ModeGE:    {plus: atLeast, low: 1 - api.MaxSum, high: api.MaxSum, g: 1},
		api.ModeLE:    {plus: atMost, low: -api.MaxSum, high: api.MaxSum - 1, g: -1},
		api.ModePlus:  {plus: always},
		api.ModeMinus: {plus: never, b: -1},
	}
	if number < 0 || number >= len(modes) {
		number = 0
	}
	return modes[number]
}

func atLeast(x, t int64) bool { return x >= t }

func atMost(x, t int64) bool { return x <= t }

func always(x, t int64) bool { return true }

func never(x, t int64) bool { return false }
