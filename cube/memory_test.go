package cube_test

import (
	"reflect"
	"slices"
	"testing"

	"heddle/api"
	"heddle/cube"
)

const mark = 0xabcd

// room is a list in memory of its own, with three marked elements in the room behind it.
func room[T any](list []T, marked T) []T {
	long := append(slices.Clone(list), marked, marked, marked)
	return slices.Clip(long)[:len(list)]
}

// all is a list with the room behind it.
func all[T any](list []T) []T { return list[:cap(list)] }

// over writes v over a list and the room behind it.
func over[T any](list []T, v T) {
	for i := range all(list) {
		all(list)[i] = v
	}
}

// given is all that a call of the package may be handed.
type given struct {
	what string
	vals []int8
	c    api.Cube
	b    api.Bits
	y, x int
}

// roomy is the same in memory of its own, each list with marked room behind it.
func (g given) roomy() given {
	g.vals, g.c.Words, g.b.Words = room(g.vals, 85), room(g.c.Words, mark), room(g.b.Words, mark)
	return g
}

// picture is all that it holds, the room behind each list too.
func (g given) picture() []any {
	return []any{
		len(g.vals), slices.Clone(all(g.vals)), g.c.Shape, len(g.c.Words), slices.Clone(all(g.c.Words)),
		g.b.Len, len(g.b.Words), slices.Clone(all(g.b.Words)),
	}
}

// loud writes over all that it holds, the room behind each list too.
func (g given) loud() {
	over(g.vals, 99)
	over(g.c.Words, 0xfefe)
	over(g.b.Words, 0xfefe)
}

// gifts are arguments of which every call answers, and such as are refused.
func gifts() []given {
	var made []given
	for _, s := range []api.Shape{{H: 1, W: 1, C: 1}, {H: 1, W: 1, C: 64}, {H: 1, W: 2, C: 3}, {H: 2, W: 3, C: 65}, {H: 3, W: 2, C: 64}, {H: 4, W: 4, C: 129}} {
		vals := tensors(s)[8]
		made = append(made, given{"answered", vals, packed(s, vals), row(vals), s.H - 1, s.W / 2})
	}
	refused := made[3]
	refused.what, refused.vals, refused.y = "another number of values, a place beside", refused.vals[1:], 9
	made = append(made, refused)
	refused.what, refused.c.Words, refused.b.Words = "a word too few", refused.c.Words[1:], refused.b.Words[1:]
	made = append(made, refused)
	refused = made[3]
	refused.what, refused.c, refused.b = "bits behind", cubeOf(shapeOf(1, 2, 65), 1, 2, 3, 4), rowOf(65, full, full)
	made = append(made, refused)
	refused.what, refused.c.Shape, refused.b = "no shape", shapeOf(0, 2, 65), api.Bits{}
	return append(made, refused)
}

// answer is what all calls tell of what they are given.
type answer struct {
	checkE, packE, unpackE, atE, flatE, turnE api.Errno
	pack, turn                                api.Cube
	unpack                                    []int8
	at, flat                                  api.Bits
}

func ask(g given) answer {
	var a answer
	a.checkE = cube.Check(g.c)
	a.pack, a.packE = cube.Pack(g.c.Shape, g.vals)
	a.unpack, a.unpackE = cube.Unpack(g.c)
	a.at, a.atE = cube.At(g.c, g.y, g.x)
	a.flat, a.flatE = cube.Flat(g.c)
	a.turn, a.turnE = cube.Turn(g.b)
	return a
}

// words are all lists of words of an answer.
func (a *answer) words() []*[]uint64 {
	return []*[]uint64{&a.pack.Words, &a.turn.Words, &a.at.Words, &a.flat.Words}
}

// copied is the answer in memory of its own.
func (a answer) copied() answer {
	a.unpack = slices.Clone(a.unpack)
	for _, l := range a.words() {
		*l = slices.Clone(*l)
	}
	return a
}

// TestArgumentsStay: what is handed in is neither changed nor kept, its spare room neither.
func TestArgumentsStay(t *testing.T) {
	for _, plainly := range gifts() {
		g := plainly.roomy()
		was := g.picture()
		a := ask(g)
		if !reflect.DeepEqual(g.picture(), was) {
			t.Errorf("P12.8: %v, %s: a call changed what was handed in", g.c.Shape, g.what)
		}
		before := a.copied()
		g.loud()
		if !reflect.DeepEqual(a, before) {
			t.Errorf("P12.8: %v, %s: an answer lies in what was handed in", g.c.Shape, g.what)
		}
		if again := ask(plainly.roomy()); !reflect.DeepEqual(again, before) {
			t.Errorf("P12.8: %v, %s: the same calls again answer otherwise", g.c.Shape, g.what)
		}
		if again := ask(plainly); !reflect.DeepEqual(again, before) {
			t.Errorf("P12.8: %v, %s: the same calls without spare room answer otherwise", g.c.Shape, g.what)
		}
	}
}

// TestAnswersAreNew: who writes into an answer, and into the room behind it, changes no other answer and no argument.
func TestAnswersAreNew(t *testing.T) {
	for _, plainly := range gifts() {
		g := plainly.roomy()
		was := g.picture()
		before := ask(g).copied()
		a, other := ask(g), ask(g)
		over(a.unpack, 99)
		for _, l := range a.words() {
			over(*l, 0xfefe)
			_ = append(*l, 1)
		}
		if !reflect.DeepEqual(other, before) {
			t.Errorf("P12.8: %v, %s: two answers share memory", g.c.Shape, g.what)
		}
		if !reflect.DeepEqual(g.picture(), was) {
			t.Errorf("P12.8: %v, %s: writing into an answer changed what was handed in", g.c.Shape, g.what)
		}
		if again := ask(g); !reflect.DeepEqual(again, before) {
			t.Errorf("P12.8: %v, %s: the same calls again answer otherwise", g.c.Shape, g.what)
		}
	}
}

// TestPiecesOfMore: words and values may be a piece of a longer list, which is not read beside it.
func TestPiecesOfMore(t *testing.T) {
	s := shapeOf(2, 3, 65)
	vals := tensors(s)[8]
	is := packed(s, vals)
	words := slices.Concat([]uint64{full, full}, is.Words, []uint64{full, full})
	long := slices.Concat([]int8{1, 1}, vals, []int8{1, 1})
	piece := cubeOf(s, words[2:2+len(is.Words)]...)
	c, e := cube.Pack(s, long[2:2+len(vals)])
	wantCube(t, "P12.8: Pack of a piece", c, e, is)
	b, e := cube.Flat(piece)
	wantRow(t, "P12.8: Flat of a piece", b, e, row(vals))
	b, e = cube.At(piece, 1, 2)
	wantRow(t, "P12.8: At of a piece", b, e, row(vals[5*65:]))
	if l, e := cube.Unpack(piece); e != api.OK || !slices.Equal(l, signs(vals)) {
		t.Errorf("P12.8: Unpack of a piece: %d values, %d", len(l), e)
	}
}
