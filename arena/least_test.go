package arena_test

import (
	"testing"

	"heddle/api"
	"heddle/arena"
)

// places calls see with all plans that differ from p in where the slots begin, from least to most, but for the last one.
func places(p api.Plan, least, most int, see func(p api.Plan)) {
	p = own(p)
	var put func(i int)
	put = func(i int) {
		if i == len(p.Slots)-1 {
			see(p)
			return
		}
		for at := least; at <= most; at++ {
			p.Slots[i].At = at
			put(i + 1)
		}
	}
	put(0)
}

// TestLeast: what Make answers may be; and of all plans with fewer words none.
func TestLeast(t *testing.T) {
	for what, m := range models() {
		p := made(t, m)
		if e := arena.Check(m, p); e != api.OK {
			t.Errorf("P21.3: %s: Make's plan may not be: %d", what, e)
		}
	}
	for _, words := range [][]int{{}, {1}, {3}, {1, 1}, {2, 1}, {1, 3}, {4, 2}, {1, 1, 1}, {1, 2, 1}, {2, 1, 2}, {1, 2, 3}, {3, 2, 1}, {3, 1, 1}, {1, 1, 3}, {2, 2, 1, 1}, {1, 2, 2, 1}, {1, 1, 2, 2}, {1, 2, 1, 2}} {
		m := row(words...)
		p := made(t, m)
		if p.Words > 6 { // all places of so many words would take too long to see
			t.Errorf("P21.1: the sizes %v: %d words", words, p.Words)
			continue
		}
		for less := -1; less < p.Words; less++ {
			q := own(p)
			q.Words = less
			places(q, -1, p.Words, func(q api.Plan) {
				if e := arena.Check(m, q); e != api.ErrArena {
					t.Errorf("P21.3: the sizes %v: Make has %d words, and this may be: %d, %+v", words, p.Words, e, q)
				}
			})
		}
		// With as many words as Make has, and with one more, the same plans as by each sentence.
		for range 2 {
			found := 0
			places(p, -1, p.Words+1, func(q api.Plan) {
				if agrees(t, m, q) {
					found++
				}
			})
			if found == 0 {
				t.Errorf("P21.3: the sizes %v: no plan with %d words", words, p.Words)
			}
			p.Words++
		}
	}
}

// TestLeastOfAny: of models of all sorts, Make's plan with a word less, its slots as far apart as they can be.
func TestLeastOfAny(t *testing.T) {
	d := dice(213)
	for range 300 {
		m := d.model()
		p := made(t, m)
		agrees(t, m, p)
		if p.Words == 0 {
			continue
		}
		p.Words--
		checks(t, "a word less", m, p, api.ErrArena)
		for i, s := range p.Slots[:len(p.Slots)-1] {
			if p.Slots[i].At = 0; i%2 == 1 {
				p.Slots[i].At = p.Words - s.Size
			}
		}
		checks(t, "a word less, the slots at its ends", m, p, api.ErrArena)
		for i, s := range p.Slots[:len(p.Slots)-1] {
			if p.Slots[i].At = 0; i%2 == 0 {
				p.Slots[i].At = p.Words - s.Size
			}
		}
		checks(t, "a word less, the slots at its other ends", m, p, api.ErrArena)
	}
}

// moved is a plan whose slots, but the last one's, lie by so many words further on.
func moved(p api.Plan, by int) api.Plan {
	p = own(p)
	for i := range p.Slots[:len(p.Slots)-1] {
		p.Slots[i].At += by
	}
	return p
}

// span is where the first slot begins and where the furthest ends, the last layer's left out.
func span(p api.Plan) (int, int) {
	from, to := p.Words, 0
	for _, s := range p.Slots[:len(p.Slots)-1] {
		from, to = min(from, s.At), max(to, s.At+s.Size)
	}
	return from, to
}

// stays: a plan that may be, with more words, and with its slots moved, may be as long as they lie within the arena.
func stays(t *testing.T, what string, m api.Model, p api.Plan) {
	t.Helper()
	for _, words := range []int{p.Words, p.Words + 1, min(2*p.Words+7, maxWords), maxWords - 1, maxWords} {
		q := own(p)
		q.Words = words
		if e := arena.Check(m, q); e != api.OK {
			t.Errorf("P21.4: %s: with %d words: %d: %+v", what, words, e, p)
		}
		if len(q.Slots) == 1 {
			continue
		}
		from, to := span(q)
		for _, by := range []int{-from, -from / 2, 0, (words - to) / 3, words - to} {
			if e := arena.Check(m, moved(q, by)); e != api.OK {
				t.Errorf("P21.4: %s: moved by %d in %d words: %d: %+v", what, by, words, e, p)
			}
		}
		for _, by := range []int{-from - 1, -from - 100, words - to + 1, words - to + 100} {
			checks(t, what+", moved out of the arena", m, moved(q, by), api.ErrArena)
		}
	}
	q := own(p)
	q.Words = maxWords + 1
	checks(t, what+", with too many words", m, q, api.ErrArena)
}

func TestMoved(t *testing.T) {
	for what, m := range models() {
		stays(t, what, m, made(t, m))
	}
	stays(t, "another plan of the chapter", chapter(), plan([]int{3, 0, 0, 0}, slots(80, 16, 1, 4, 5, 2, 0, 0), 100))
	d := dice(214)
	for range 200 {
		m := d.model()
		stays(t, "any", m, made(t, m))
	}
	// Plans that may be, of which Make answers none.
	found := 0
	for range 2000 {
		m := row(d.roll(1, 3), d.roll(1, 3), d.roll(1, 3))
		p := made(t, m)
		p.Words += d.roll(0, 9)
		for i, s := range p.Slots[:3] {
			p.Slots[i].At = d.roll(0, p.Words-s.Size)
		}
		if mayBe(m, p) {
			found++
			stays(t, "any other", m, p)
		}
	}
	if found < 200 {
		t.Errorf("the test's own plans: %d may be", found)
	}
}

// TestMovedAlone: where all others stay, a slot that is moved onto its neighbour is told.
func TestMovedAlone(t *testing.T) {
	for what, m := range map[string]api.Model{"chapter": chapter(), "mixed": mixed(), "rising": row(1, 2, 3, 4, 5), "alike": row(2, 2, 2, 2)} {
		p := made(t, m)
		p.Words += 3
		for i := range p.Slots {
			for by := -p.Words; by <= p.Words; by++ {
				q := own(p)
				q.Slots[i].At += by
				agrees(t, m, q)
			}
		}
		stays(t, what, m, p)
	}
}
