package pool_test

import (
	"testing"

	"heddle/api"
)

// told is what a call answers of a tensor, which it must not refuse.
func told(t *testing.T, k call, c api.Cube, w api.Window) api.Cube {
	t.Helper()
	a, e := k.ask(c, w)
	if e != api.OK {
		t.Fatalf("%s of %v by %+v: %d", k.what, c.Shape, w, e)
	}
	return a
}

// turnedCube has all elements of a cube turned, and no bits behind its channels.
func turnedCube(c api.Cube) api.Cube {
	wide := wordsOf(c.Shape.C)
	made := api.Cube{Shape: c.Shape}
	for i, word := range c.Words {
		all := uint64(full)
		if i%wide == wide-1 && c.Shape.C%64 > 0 {
			all = full >> (64 - c.Shape.C%64)
		}
		made.Words = append(made.Words, all^word)
	}
	return made
}

// TestTurnedAbout: the least of what is turned is the greatest, turned, and the other way.
func TestTurnedAbout(t *testing.T) {
	t.Parallel()
	for _, c := range channels {
		for n, w := range append([]api.Window{win(15, 15, 2, 3), win(14, 1, 15, 1), win(2, 15, 1, 15)}, few...) {
			for i, x := range some(shapeOf(16, 17, c), w.R*w.S, n+c) {
				a, b := x.cube(), x.turned().cube()
				if !sameCube(told(t, calls[1], b, w), turnedCube(told(t, calls[0], a, w))) {
					t.Errorf("P15.4: %v (%d) by %+v: Min of what is turned is not Max, turned", x.s, i, w)
				}
				if !sameCube(told(t, calls[0], b, w), turnedCube(told(t, calls[1], a, w))) {
					t.Errorf("P15.4: %v (%d) by %+v: Max of what is turned is not Min, turned", x.s, i, w)
				}
			}
		}
	}
}

// joined is two tensors of one shape joined, element by element.
func joined(x, y tensor, of func([]int8) int8) tensor {
	made := evenly(x.s, 0)
	for i := range made.vals {
		made.vals[i] = of([]int8{x.vals[i], y.vals[i]})
	}
	return made
}

// joinedCube is two cubes of one shape joined, element by element, by the greater or by the lesser.
func joinedCube(a, b api.Cube, greater bool) api.Cube {
	made := api.Cube{Shape: a.Shape}
	for i := range a.Words {
		if greater {
			made.Words = append(made.Words, a.Words[i]|b.Words[i])
		} else {
			made.Words = append(made.Words, a.Words[i]&b.Words[i])
		}
	}
	return made
}

// atMost tells whether each element of a cube is at most that of the other one.
func atMost(a, b api.Cube) bool {
	for i, word := range a.Words {
		if word&^b.Words[i] != 0 {
			return false
		}
	}
	return a.Shape == b.Shape
}

// TestGreater: a lower cube's answers are lower, and the least is at most the greatest.
func TestGreater(t *testing.T) {
	t.Parallel()
	for _, c := range channels {
		for n, w := range append([]api.Window{win(15, 15, 2, 3), win(14, 1, 15, 1), win(2, 15, 1, 15)}, few...) {
			s := shapeOf(16, 17, c)
			for i, x := range some(s, w.R*w.S, n+c) {
				for _, y := range some(s, w.R*w.S, 3*n+c+9) {
					low, high := joined(x, y, calls[1].of).cube(), joined(x, y, calls[0].of).cube()
					for _, one := range []api.Cube{x.cube(), y.cube()} {
						for _, k := range calls {
							if !atMost(told(t, k, low, w), told(t, k, one, w)) || !atMost(told(t, k, one, w), told(t, k, high, w)) {
								t.Errorf("P15.5: %s of %v (%d) by %+v is above that of a greater cube", k.what, s, i, w)
							}
						}
						if !atMost(told(t, calls[1], one, w), told(t, calls[0], one, w)) {
							t.Errorf("P15.5: Min of %v (%d) by %+v is above Max", s, i, w)
						}
					}
				}
			}
		}
	}
}

// TestJoined: Max of two cubes joined by the greater is the two Maxs so joined; Min likewise by the lesser, since all may be turned about.
func TestJoined(t *testing.T) {
	t.Parallel()
	for _, c := range channels {
		for n, w := range append([]api.Window{win(15, 15, 2, 3), win(14, 1, 15, 1), win(2, 15, 1, 15)}, few...) {
			s := shapeOf(16, 17, c)
			for i, x := range some(s, w.R*w.S, n+c) {
				for _, y := range some(s, w.R*w.S, 5*n+c+7) {
					for k, greater := range []bool{true, false} {
						a, b := told(t, calls[k], x.cube(), w), told(t, calls[k], y.cube(), w)
						if !sameCube(told(t, calls[k], joined(x, y, calls[k].of).cube(), w), joinedCube(a, b, greater)) {
							t.Errorf("P15.5: %s of two cubes joined, %v (%d) by %+v, is not the two joined", calls[k].what, s, i, w)
						}
					}
				}
			}
		}
	}
}

// twice fails unless a window over a window tells what the joined window does.
func twice(t *testing.T, x tensor, v, w api.Window) {
	t.Helper()
	both := win(v.R+w.R-1, v.S+w.S-1, 1, 1)
	for _, k := range calls {
		if a := told(t, k, told(t, k, x.cube(), w), v); !sameCube(a, told(t, k, x.cube(), both)) {
			t.Errorf("P15.6: %s of %v by %d x %d, then by %d x %d, is not that by %d x %d", k.what, x.s, w.R, w.S, v.R, v.S, both.R, both.S)
		}
	}
}

// TestTwice: every two heights, and every two widths, whose joined window may be, up to just 15.
func TestTwice(t *testing.T) {
	t.Parallel()
	next := chance(6)
	for a := 1; a <= 15; a++ {
		for b := 1; a+b-1 <= 15; b++ {
			p := next(15) + 1
			q := next(16-p) + 1
			seed := 16*a + b
			x := some(shapeOf(17, 16, channels[seed%6]), (a+b-1)*(p+q-1), seed)[seed%3]
			twice(t, x, win(a, p, 1, 1), win(b, q, 1, 1))
			twice(t, tensor{shapeOf(16, 17, x.s.C), x.vals}, win(p, a, 1, 1), win(q, b, 1, 1))
			// Over a tensor as great as the joined window, which just fits.
			just := shapeOf(a+b-1, p+q-1, 65)
			twice(t, some(just, just.H*just.W, seed)[seed%2], win(a, p, 1, 1), win(b, q, 1, 1))
		}
	}
}

// TestTwiceBeyond: a joined window of 16 rows or columns is none, though the two answer, one over the other, what 16 places say; and where it would not fit the second one does not.
func TestTwiceBeyond(t *testing.T) {
	for a := 2; a <= 15; a++ {
		for _, x := range some(shapeOf(18, 3, 65), 17, a) {
			v, w, both := win(a, 1, 1, 1), win(17-a, 1, 1, 1), win(16, 1, 1, 1)
			refused(t, "16 rows", x.cube(), both, api.ErrWindow)
			for _, k := range calls {
				if b := told(t, k, told(t, k, x.cube(), w), v); !sameCube(b, x.pooled(both, k.of).cube()) {
					t.Errorf("%s of %v by %d rows, then by %d", k.what, x.s, w.R, v.R)
				}
			}
			wide := tensor{shapeOf(3, 18, 65), x.vals}
			v, w, both = win(1, a, 1, 1), win(1, 17-a, 1, 1), win(1, 16, 1, 1)
			refused(t, "16 columns", wide.cube(), both, api.ErrWindow)
			for _, k := range calls {
				if b := told(t, k, told(t, k, wide.cube(), w), v); !sameCube(b, wide.pooled(both, k.of).cube()) {
					t.Errorf("%s of %v by %d columns, then by %d", k.what, wide.s, w.S, v.S)
				}
			}
		}
	}
	x := rarely(shapeOf(4, 4, 65), 3, 1)
	for _, k := range calls {
		once := told(t, k, x.cube(), win(3, 3, 1, 1))
		refused(t, "a window over a window", once, win(3, 2, 1, 1), api.ErrFit)
		refused(t, "a window over a window", once, win(2, 3, 1, 1), api.ErrFit)
	}
	refused(t, "their joined window", x.cube(), win(5, 4, 1, 1), api.ErrFit)
	refused(t, "their joined window", x.cube(), win(4, 5, 1, 1), api.ErrFit)
}

// TestOneByOne: the window 1 x 1 with the steps 1 changes nothing.
func TestOneByOne(t *testing.T) {
	for _, c := range channels {
		for _, s := range []api.Shape{shapeOf(1, 1, c), shapeOf(1, 7, c), shapeOf(7, 1, c), shapeOf(5, 6, c)} {
			for i, x := range some(s, 2, c) {
				for _, k := range calls {
					if !sameCube(told(t, k, x.cube(), win(1, 1, 1, 1)), x.cube()) {
						t.Errorf("P15.6: %s of %v (%d) by 1 x 1 is another cube", k.what, s, i)
					}
				}
			}
		}
	}
}
