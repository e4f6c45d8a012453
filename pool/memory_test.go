package pool_test

import (
	"slices"
	"testing"

	"heddle/api"
)

const mark = 0xabcd

// room is a list in memory of its own, with three marked words in the room behind it.
func room(list []uint64) []uint64 {
	long := append(slices.Clone(list), mark, mark, mark)
	return slices.Clip(long)[:len(list)]
}

// all is a list with the room behind it.
func all(list []uint64) []uint64 { return list[:cap(list)] }

// over writes v over a list and the room behind it.
func over(list []uint64, v uint64) {
	for i := range all(list) {
		all(list)[i] = v
	}
}

// gift is all that a call may be handed.
type gift struct {
	what string
	c    api.Cube
	w    api.Window
}

// roomy is the same in memory of its own, with marked room behind its words.
func (g gift) roomy() gift {
	g.c.Words = room(g.c.Words)
	return g
}

// gifts are arguments of which both calls answer, and such as are refused.
func gifts() []gift {
	var made []gift
	for _, c := range channels {
		for i, w := range few {
			made = append(made, gift{"answered", rarely(shapeOf(4, 5, c), 3, c+i).cube(), w})
		}
		made = append(made, gift{"answered", rarely(shapeOf(1, 1, c), 3, c).cube(), win(1, 1, 1, 1)})
		c := rarely(shapeOf(4, 5, c), 2, c).cube()
		made = append(made,
			gift{"a window that may not be", c, win(16, 1, 1, 1)},
			gift{"a border", c, win(1, 1, 1, 1, 0, 0, 1)},
			gift{"a window that does not fit", c, win(5, 1, 1, 1)},
			gift{"a word too few", api.Cube{Shape: c.Shape, Words: c.Words[1:]}, win(1, 1, 1, 1)},
			gift{"another shape", api.Cube{Shape: shapeOf(0, 5, 1), Words: c.Words}, win(1, 1, 1, 1)})
	}
	return made
}

// answer is what both calls tell.
type answer struct {
	cubes [2]api.Cube
	e     [2]api.Errno
}

func ask(g gift) answer {
	var a answer
	for i, k := range calls {
		a.cubes[i], a.e[i] = k.ask(g.c, g.w)
	}
	return a
}

// copied is the answer in memory of its own.
func (a answer) copied() answer {
	for i := range a.cubes {
		a.cubes[i].Words = slices.Clone(a.cubes[i].Words)
	}
	return a
}

func same(a, b answer) bool {
	return a.e == b.e && sameCube(a.cubes[0], b.cubes[0]) && sameCube(a.cubes[1], b.cubes[1])
}

// TestGiftsAnswered: of the gifts that are to be answered both calls are, and of the others none.
func TestGiftsAnswered(t *testing.T) {
	for _, g := range gifts() {
		a := ask(g)
		for i, e := range a.e {
			if (e == api.OK) != (g.what == "answered") || (e == api.OK) != (len(a.cubes[i].Words) > 0) {
				t.Errorf("P15.7: %s, %v, %s: %d", calls[i].what, g.c.Shape, g.what, e)
			}
		}
	}
}

// TestArgumentsStay: what is handed in is neither changed nor kept, its spare room neither.
func TestArgumentsStay(t *testing.T) {
	for _, plainly := range gifts() {
		g := plainly.roomy()
		was := slices.Clone(all(g.c.Words))
		a := ask(g)
		if !slices.Equal(all(g.c.Words), was) {
			t.Errorf("P15.7: %v, %s: a call changed what was handed in", g.c.Shape, g.what)
		}
		before := a.copied()
		over(g.c.Words, 0xfefe)
		if !same(a, before) {
			t.Errorf("P15.7: %v, %s: an answer lies in what was handed in", g.c.Shape, g.what)
		}
		if !same(ask(plainly.roomy()), before) {
			t.Errorf("P15.7: %v, %s: the same calls again answer otherwise", g.c.Shape, g.what)
		}
	}
}

// TestAnswersAreOwn: answers are written full with all their room; nothing else changes, and the same calls again answer as before.
func TestAnswersAreOwn(t *testing.T) {
	for _, plainly := range gifts() {
		g := plainly.roomy()
		was := slices.Clone(all(g.c.Words))
		a, other := ask(g), ask(g)
		before := a.copied()
		over(a.cubes[0].Words, 0xfefe)
		if !sameCube(a.cubes[1], before.cubes[1]) {
			t.Errorf("P15.7: %v, %s: what Max and Min answer shares memory", g.c.Shape, g.what)
		}
		over(a.cubes[1].Words, 0xefef)
		if slices.Contains(all(a.cubes[0].Words), 0xefef) {
			t.Errorf("P15.7: %v, %s: what Max and Min answer shares room", g.c.Shape, g.what)
		}
		if !same(other, before) {
			t.Errorf("P15.7: %v, %s: two answers share memory", g.c.Shape, g.what)
		}
		if !slices.Equal(all(g.c.Words), was) {
			t.Errorf("P15.7: %v, %s: an answer has room in what was handed in", g.c.Shape, g.what)
		}
		if !same(ask(g), before) {
			t.Errorf("P15.7: %v, %s: behind a written answer the same calls answer otherwise", g.c.Shape, g.what)
		}
	}
}

// TestOtherCallsBetween: what was asked ahead does not tell in an answer.
func TestOtherCallsBetween(t *testing.T) {
	list := gifts()
	var first []answer
	for _, g := range list {
		first = append(first, ask(g).copied())
	}
	for i := len(list) - 1; i >= 0; i-- {
		if !same(ask(list[i]), first[i]) {
			t.Errorf("P15.7: %v, %s: in another order the calls answer otherwise", list[i].c.Shape, list[i].what)
		}
	}
}

// TestNilAndEmpty: nil words are the same as empty ones.
func TestNilAndEmpty(t *testing.T) {
	for _, s := range []api.Shape{{}, shapeOf(2, 2, 1), shapeOf(4096, 4096, 2)} {
		for _, w := range []api.Window{{}, win(1, 1, 1, 1), win(1, 1, 1, 1, 1), win(3, 3, 1, 1)} {
			a, b := ask(gift{c: api.Cube{Shape: s}, w: w}), ask(gift{c: api.Cube{Shape: s, Words: []uint64{}}, w: w})
			if !same(a, b) || a.e[0] == api.OK {
				t.Errorf("P0.4: %v by %+v, no words: %d, %d", s, w, a.e, b.e)
			}
		}
	}
}
