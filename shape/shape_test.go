package shape_test

import (
	"math"
	"testing"

	"heddle/api"
	"heddle/shape"
)

// sides are lengths at the edges of what may be, beside them, and far beyond, where products would wrap.
var sides = []int{math.MinInt, math.MinInt + 1, -1 << 32, -4096, -1, 0, 1, 2, 3, 15, 63, 64, 65, 127, 128, 129, 255, 256, 257, 1024, 4095, 4096, 4097, 5000, 1 << 16, 1 << 21, 1 << 32, 1 << 62, math.MaxInt - 1, math.MaxInt}

func of(h, w, c int) api.Shape { return api.Shape{H: h, W: w, C: c} }

func within(n, least, most int) bool { return least <= n && n <= most }

// fault is what the document says of a shape, with numbers of its own.
func fault(s api.Shape) api.Errno {
	for _, n := range []int{s.H, s.W, s.C} {
		if !within(n, 1, 4096) {
			return api.ErrShape
		}
	}
	if s.H*s.W*s.C > 16777216 {
		return api.ErrBig
	}
	return api.OK
}

func TestShapesAtAllEdges(t *testing.T) {
	for _, h := range sides {
		for _, w := range sides {
			for _, c := range sides {
				s := of(h, w, c)
				want := fault(s)
				if e := shape.Check(s); e != want {
					t.Errorf("P3.1: Check(%v) = %d, want %d", s, e, want)
				}
				elems, words := 0, 0
				if want == api.OK {
					for from := 0; from < c; from += 64 {
						words += h * w
					}
					elems = h * w * c
				}
				if n, e := shape.Elems(s); n != elems || e != want {
					t.Errorf("P3.2: Elems(%v) = %d, %d, want %d, %d", s, n, e, elems, want)
				}
				if n, e := shape.Words(s); n != words || e != want {
					t.Errorf("P3.2: Words(%v) = %d, %d, want %d, %d", s, n, e, words, want)
				}
			}
		}
	}
}

func TestShapesOfTheDocument(t *testing.T) {
	for _, c := range []struct {
		s            api.Shape
		elems, words int
		e            api.Errno
	}{
		{of(4096, 4096, 1), 1 << 24, 1 << 24, api.OK},
		{of(4096, 4097, 1), 0, 0, api.ErrShape},
		{of(1, 1, 0), 0, 0, api.ErrShape},
		{of(4096, 4096, 2), 0, 0, api.ErrBig},
		{of(-1, 5000, 5000), 0, 0, api.ErrShape},
		{of(2, 3, 5), 30, 6, api.OK},
		{of(2, 3, 65), 390, 12, api.OK},
		{of(1, 1, 64), 64, 1, api.OK},

		{of(1, 1, 1), 1, 1, api.OK},
		{of(1, 1, 63), 63, 1, api.OK},
		{of(1, 1, 65), 65, 2, api.OK},
		{of(1, 1, 4096), 4096, 64, api.OK},
		{of(4096, 1, 4096), 1 << 24, 1 << 18, api.OK},
		{of(4096, 4096, 4096), 0, 0, api.ErrBig},
		{of(4095, 4097, 1), 0, 0, api.ErrShape},
		{of(257, 257, 254), 257 * 257 * 254, 257 * 257 * 4, api.OK},
		{of(257, 256, 256), 0, 0, api.ErrBig},
		{of(241, 17, 4095), 1<<24 - 1, 4097 * 64, api.OK},
		{of(97, 257, 673), 0, 0, api.ErrBig}, // 2^24 + 1 elements
		{of(1<<32, 1<<32, 1), 0, 0, api.ErrShape},
		{of(1<<21, 1<<21, 1<<22), 0, 0, api.ErrShape},
		{api.Shape{}, 0, 0, api.ErrShape},
	} {
		if e := shape.Check(c.s); e != c.e {
			t.Errorf("P3.1: Check(%v) = %d, want %d", c.s, e, c.e)
		}
		if n, e := shape.Elems(c.s); n != c.elems || e != c.e {
			t.Errorf("P3.2: Elems(%v) = %d, %d, want %d, %d", c.s, n, e, c.elems, c.e)
		}
		if n, e := shape.Words(c.s); n != c.words || e != c.e {
			t.Errorf("P3.2: Words(%v) = %d, %d, want %d, %d", c.s, n, e, c.words, c.e)
		}
	}
}

// TestNumbersRise goes through all elements, counting them: y, then x, then c.
func TestNumbersRise(t *testing.T) {
	for _, s := range []api.Shape{of(1, 1, 1), of(2, 3, 5), of(5, 3, 2), of(3, 1, 4), of(1, 4, 1), of(7, 1, 1), of(1, 1, 9), of(2, 2, 63), of(2, 3, 64), of(3, 2, 65), of(1, 4096, 2), of(4096, 1, 2), of(2, 1, 4096)} {
		i := 0
		for y := range s.H {
			for x := range s.W {
				for c := range s.C {
					if n, e := shape.Index(s, y, x, c); n != i || e != api.OK {
						t.Fatalf("P3.3, P3.7: Index(%v, %d, %d, %d) = %d, %d, want %d", s, y, x, c, n, e, i)
					}
					if a, b, d, e := shape.Place(s, i); a != y || b != x || d != c || e != api.OK {
						t.Fatalf("P3.4, P3.7: Place(%v, %d) = %d, %d, %d, %d, want %d, %d, %d", s, i, a, b, d, e, y, x, c)
					}
					i++
				}
			}
		}
		if y, x, c, e := shape.Place(s, i); y != 0 || x != 0 || c != 0 || e != api.ErrArg {
			t.Errorf("P3.4: Place(%v, %d), one behind the last, = %d, %d, %d, %d", s, i, y, x, c, e)
		}
	}
}

// TestNumbersOfLargeShapes looks at the elements at and beside each border of a row, a place and the whole.
func TestNumbersOfLargeShapes(t *testing.T) {
	for _, s := range []api.Shape{of(4096, 4096, 1), of(4096, 1, 4096), of(1, 4096, 4096), of(256, 256, 256), of(255, 257, 255), of(2, 4096, 2048)} {
		for y := range s.H {
			for _, x := range []int{0, 1, s.W / 2, s.W - 2, s.W - 1} {
				for _, c := range []int{0, 1, s.C / 2, s.C - 2, s.C - 1} {
					if !within(x, 0, s.W-1) || !within(c, 0, s.C-1) {
						continue
					}
					want := y*s.W*s.C + x*s.C + c
					if n, e := shape.Index(s, y, x, c); n != want || e != api.OK {
						t.Fatalf("P3.3: Index(%v, %d, %d, %d) = %d, %d, want %d", s, y, x, c, n, e, want)
					}
					if a, b, d, e := shape.Place(s, want); a != y || b != x || d != c || e != api.OK {
						t.Fatalf("P3.4, P3.7: Place(%v, %d) = %d, %d, %d, %d, want %d, %d, %d", s, want, a, b, d, e, y, x, c)
					}
				}
			}
		}
	}
}

func TestIndexBesideTheTensor(t *testing.T) {
	beside := []int{math.MinInt, math.MinInt + 1, -1 << 32, -2, -1, 0, 1, 2, 3, 4, 5, 6, 4096, 1 << 32, 1 << 62, math.MaxInt - 1, math.MaxInt}
	for _, s := range []api.Shape{of(2, 3, 5), of(5, 2, 3), of(1, 1, 1)} {
		for _, y := range beside {
			for _, x := range beside {
				for _, c := range beside {
					want, fault := 0, api.ErrArg
					if within(y, 0, s.H-1) && within(x, 0, s.W-1) && within(c, 0, s.C-1) {
						want, fault = (y*s.W+x)*s.C+c, api.OK
					}
					if n, e := shape.Index(s, y, x, c); n != want || e != fault {
						t.Errorf("P3.3: Index(%v, %d, %d, %d) = %d, %d, want %d, %d", s, y, x, c, n, e, want, fault)
					}
				}
			}
		}
	}
}

func TestPlaceBesideTheTensor(t *testing.T) {
	for _, s := range []api.Shape{of(2, 3, 5), of(1, 1, 1), of(4096, 4096, 1), of(256, 256, 256)} {
		n := s.H * s.W * s.C
		for _, i := range []int{math.MinInt, math.MinInt + 1, -1 << 32, -n, -2, -1, n, n + 1, 2 * n, 1 << 32, 1 << 62, math.MaxInt - 1, math.MaxInt} {
			if y, x, c, e := shape.Place(s, i); y != 0 || x != 0 || c != 0 || e != api.ErrArg {
				t.Errorf("P3.4: Place(%v, %d) = %d, %d, %d, %d, want ErrArg and nothing else", s, i, y, x, c, e)
			}
		}
	}
}

func TestPlacesOfTheDocument(t *testing.T) {
	s := of(2, 3, 5)
	for _, c := range []struct {
		y, x, c, i int
		e          api.Errno
	}{{1, 2, 4, 29, api.OK}, {1, 3, 0, 0, api.ErrArg}, {0, 0, -1, 0, api.ErrArg}, {1, 0, 0, 15, api.OK}} {
		if i, e := shape.Index(s, c.y, c.x, c.c); i != c.i || e != c.e {
			t.Errorf("P3.3: Index(%v, %d, %d, %d) = %d, %d, want %d, %d", s, c.y, c.x, c.c, i, e, c.i, c.e)
		}
	}
	for _, c := range []struct {
		i, y, x, c int
		e          api.Errno
	}{{29, 1, 2, 4, api.OK}, {15, 1, 0, 0, api.OK}, {30, 0, 0, 0, api.ErrArg}} {
		if y, x, d, e := shape.Place(s, c.i); y != c.y || x != c.x || d != c.c || e != c.e {
			t.Errorf("P3.4: Place(%v, %d) = %d, %d, %d, %d, want %d, %d, %d, %d", s, c.i, y, x, d, e, c.y, c.x, c.c, c.e)
		}
	}
}

// TestNoPlacesOfNoShape: a shape's fault is told ahead of that of a place, and of numbers that would do too.
func TestNoPlacesOfNoShape(t *testing.T) {
	for _, s := range []api.Shape{{}, of(0, 1, 1), of(1, 0, 1), of(1, 1, 0), of(-1, 2, 2), of(4097, 1, 1), of(1, 4097, 1), of(1, 1, 4097), of(4096, 4096, 2), of(256, 257, 256), of(math.MinInt, math.MaxInt, 2)} {
		want := fault(s)
		for _, i := range []int{0, 1, -1, math.MinInt, math.MaxInt} {
			if n, e := shape.Index(s, i, 0, i); n != 0 || e != want {
				t.Errorf("P3.3: Index(%v, %d, 0, %d) = %d, %d, want %d", s, i, i, n, e, want)
			}
			if y, x, c, e := shape.Place(s, i); y != 0 || x != 0 || c != 0 || e != want {
				t.Errorf("P3.4: Place(%v, %d) = %d, %d, %d, %d, want %d", s, i, y, x, c, e, want)
			}
		}
	}
}

// TestAnswersHangOnArguments asks everything again behind other and refused calls.
func TestAnswersHangOnArguments(t *testing.T) {
	type answers struct {
		check, window    api.Errno
		elems, words, at int
		y, x, c          int
		out              api.Shape
		e                api.Errno
	}
	ask := func(s api.Shape, i int, w api.Window, k int) (a answers) {
		a.check, a.window = shape.Check(s), shape.Window(w)
		a.elems, _ = shape.Elems(s)
		a.words, _ = shape.Words(s)
		a.at, _ = shape.Index(s, i, i, i)
		a.y, a.x, a.c, _ = shape.Place(s, i)
		a.out, a.e = shape.Slide(s, w, k)
		return a
	}
	asked := func() []answers {
		return []answers{
			ask(of(5, 5, 3), 2, win(3, 3, 1, 1, 1, 1, 1, 1), 8),
			ask(of(5, 4, 1), 0, win(2, 2, 2, 2, 0, 0, 0, 0), 7),
			ask(of(4096, 4096, 2), -1, win(0, 2, 2, 2, 0, 0, 0, 0), 7),
			ask(of(2, 2, 1), 9, win(3, 3, 1, 1, 0, 0, 1, 0), 1),
		}
	}
	first, second := asked(), asked()
	for i := range first {
		if first[i] != second[i] {
			t.Errorf("P3.9: asked again: %+v, at first %+v", second[i], first[i])
		}
	}
	want := answers{elems: 75, words: 25, at: 38, c: 2, out: of(5, 5, 8)}
	if first[0] != want {
		t.Errorf("P3.9: %+v, want %+v", first[0], want)
	}
}
