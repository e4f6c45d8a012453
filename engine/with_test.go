package engine_test

import (
	"math"
	"slices"
	"testing"

	"heddle/api"
	"heddle/arena"
	"heddle/engine"
)

// TestWithOfWhatMayNotBe: plans that may not be for the model; the engine stays as it was.
func TestWithOfWhatMayNotBe(t *testing.T) {
	n := mixed()
	g := load(t, n)
	m, was := g.Model(), g.Plan()
	for what, do := range map[string]func(p *api.Plan){
		"nothing":               func(p *api.Plan) { *p = api.Plan{} },
		"no ways":               func(p *api.Plan) { p.Ways = nil },
		"no slots":              func(p *api.Plan) { p.Slots = nil },
		"a way less":            func(p *api.Plan) { p.Ways = p.Ways[:5] },
		"a way more":            func(p *api.Plan) { p.Ways = append(p.Ways, 0) },
		"a slot less":           func(p *api.Plan) { p.Slots = p.Slots[:5] },
		"a slot more":           func(p *api.Plan) { p.Slots = append(p.Slots, api.Slot{}) },
		"a conv's way 0":        func(p *api.Plan) { p.Ways[0] = 0 },
		"a conv's way 4":        func(p *api.Plan) { p.Ways[3] = 4 },
		"a conv's way -1":       func(p *api.Plan) { p.Ways[4] = -1 },
		"a great way":           func(p *api.Plan) { p.Ways[4] = math.MaxInt },
		"a pool's way 1":        func(p *api.Plan) { p.Ways[1] = 1 },
		"a dense layer's way 1": func(p *api.Plan) { p.Ways[2] = 1 },
		"the last one's way 1":  func(p *api.Plan) { p.Ways[5] = 1 },
		"a Size less":           func(p *api.Plan) { p.Slots[0].Size-- },
		"a Size more":           func(p *api.Plan) { p.Slots[4].Size++ },
		"a Size below 0":        func(p *api.Plan) { p.Slots[1].Size = math.MinInt },
		"the last one's Size":   func(p *api.Plan) { p.Slots[5].Size = 1 },
		"the last one's At":     func(p *api.Plan) { p.Slots[5].At = 1 },
		"an At below 0":         func(p *api.Plan) { p.Slots[0].At = -1 },
		"an At too great":       func(p *api.Plan) { p.Slots[1].At++ },
		"an At far too great":   func(p *api.Plan) { p.Slots[1].At = math.MaxInt },
		"a word less":           func(p *api.Plan) { p.Words-- },
		"no words":              func(p *api.Plan) { p.Words = 0 },
		"words below 0":         func(p *api.Plan) { p.Words = math.MinInt },
		"a word in common":      func(p *api.Plan) { p.Words, p.Slots[0].At = 100, 1 },
		"2^26 + 1 words":        func(p *api.Plan) { p.Words = maxWords + 1 },
		"far too many words":    func(p *api.Plan) { p.Words = math.MaxInt },
	} {
		p := g.Plan()
		do(&p)
		if h, e := g.With(p); h != nil || e != api.ErrArena || e != arena.Check(m, p) {
			t.Errorf("P22.2: %s: With = %v, %d; arena.Check = %d", what, h, e, arena.Check(m, p))
		}
		if !samePlan(g.Plan(), was) || !sameModel(g.Model(), m) {
			t.Errorf("P22.2: %s: the engine is another one: %+v", what, g.Plan())
		}
	}
	other := load(t, edge(0, from(0)))
	if h, e := g.With(other.Plan()); h != nil || e != api.ErrArena {
		t.Errorf("P22.2: another model's plan: %v, %d", h, e)
	}
	d := dice(1)
	for _, x := range d.inputs(n, 3) {
		alike(t, "an engine whose With was refused", g, n, x)
	}
}

// TestWith: another engine of the same model with that plan; the first one stays as it is.
func TestWith(t *testing.T) {
	d := dice(222)
	for _, n := range d.networks(60) {
		g := load(t, n)
		m, was := g.Model(), g.Plan()
		x := d.inputs(n, 1)[4]
		p := d.plan(t, m)
		h := with(t, g, p)
		if h == g || !samePlan(h.Plan(), p) || !sameModel(h.Model(), m) {
			t.Errorf("P22.2, P22.5: With(%+v) has the plan %+v and the model %s", p, h.Plan(), show(h.Model()))
		}
		if !samePlan(g.Plan(), was) || !sameModel(g.Model(), m) {
			t.Errorf("P22.2: the first engine has another plan, %+v", g.Plan())
		}
		alike(t, "the first engine", g, n, x)
		alike(t, "the other one", h, n, x)
		// And of the other one a third, with the first one's plan.
		third := with(t, h, was)
		if third == g || third == h || !samePlan(third.Plan(), was) || !samePlan(h.Plan(), p) || !sameModel(third.Model(), m) {
			t.Errorf("P22.2: of the other engine: %+v, %+v", third.Plan(), h.Plan())
		}
		alike(t, "the third one", third, n, x)
		alike(t, "the first engine again", g, n, x)
	}
}

// TestPlansDoNotMatter: whatever plan arena.Check lets pass, the answers are the same.
func TestPlansDoNotMatter(t *testing.T) {
	d := dice(6)
	for _, n := range d.networks(50) {
		g := load(t, n)
		m := g.Model()
		engines := []*engine.Engine{g}
		for range 6 {
			engines = append(engines, with(t, g, d.plan(t, m)))
		}
		for _, x := range d.inputs(n, 1) {
			for _, h := range engines {
				alike(t, "T6: any plan", h, n, x)
			}
		}
	}
}

// TestSlotsAnywhere moves two outputs over all places of a small arena, in all ways.
func TestSlotsAnywhere(t *testing.T) {
	d := dice(66)
	// Its outputs have 2, 1 and 3 words.
	n := network(of(1, 2, 2), conv(point(), 0, d.signs(3*2), from(0), upTo(3), from(-20)), pool(win(1, 2, 1, 1, 0, 0, 0, 0)),
		conv(win(1, 2, 1, 1, 0, 2, 0, 1), 1, d.signs(2*6), from(0), from(1)), last(d.weights(3*6), 0, 1, 2))
	g := load(t, n)
	inputs := d.inputs(n, 2)
	passed := 0
	for words := range 9 {
		for a := range words {
			for b := range words {
				for c := range words {
					p := api.Plan{Ways: []int{1, 0, 1 + (a+b+c)%3, 0}, Slots: []api.Slot{{At: a, Size: 2}, {At: b, Size: 1}, {At: c, Size: 3}, {}}, Words: words}
					h, e := g.With(p)
					if e != arena.Check(g.Model(), p) || (h == nil) != (e != api.OK) {
						t.Fatalf("P22.2: With(%+v) = %d", p, e)
					}
					if e != api.OK {
						continue
					}
					passed++
					for _, x := range inputs {
						alike(t, "T6: slots anywhere", h, n, x)
					}
				}
			}
		}
	}
	if passed < 300 {
		t.Errorf("%d plans passed", passed)
	}
}

// TestGreatArenas: plans with as many words as may be, their slots at the front, at the end, and at both.
func TestGreatArenas(t *testing.T) {
	n := mixed()
	g := load(t, n)
	d := dice(67)
	for _, x := range d.inputs(n, 1) {
		front := g.Plan()
		front.Words = maxWords
		alike(t, "T6: at the front of a great arena", with(t, g, front), n, x)
		end := g.Plan()
		for i := range end.Slots[:5] {
			end.Slots[i].At += maxWords - end.Words
		}
		end.Words = maxWords
		alike(t, "T6: at the end of a great arena", with(t, g, end), n, x)
	}
	both := g.Plan()
	both.Words = maxWords
	for i, s := range both.Slots[:5] {
		both.Slots[i].At = []int{0, maxWords - s.Size}[i%2]
	}
	alike(t, "T6: at both ends of a great arena", with(t, g, both), n, slices.Repeat([]byte{200, 3, 9}, 8))
	lone := load(t, tiny(5, -5))
	for _, words := range []int{0, 1, 100, maxWords} {
		h := with(t, lone, api.Plan{Ways: []int{0}, Slots: []api.Slot{{}}, Words: words})
		runs(t, "T6: one layer, any arena", h, []byte{3, 4, 255}, 0, 9, 1)
	}
}

// TestMakesPlanKeepsApart: in the plan of Make each layer's input and output have no word in common.
func TestMakesPlanKeepsApart(t *testing.T) {
	d := dice(68)
	for _, n := range d.networks(80) {
		slots := load(t, n).Plan().Slots
		for i := 1; i < len(slots); i++ {
			held := map[int]int{}
			for _, s := range slots[i-1 : i+1] {
				for word := s.At; word < s.At+s.Size; word++ {
					held[word]++
				}
			}
			for word, times := range held {
				if times > 1 {
					t.Errorf("T6: the layers %d and %d both have the word %d: %v", i-1, i, word, slots)
				}
			}
		}
	}
}
