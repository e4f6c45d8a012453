package arena_test

import (
	"math"
	"slices"
	"strconv"
	"testing"

	"heddle/api"
)

// breaks: plans that break one sentence of 'A plan may be' each, and nothing else as far as that can be.
func breaks(m api.Model, p api.Plan) map[string]api.Plan {
	bad := map[string]api.Plan{}
	with := func(what string, do func(p *api.Plan)) {
		other := own(p)
		do(&other)
		bad[what] = other
	}
	last := len(m.Packs) - 1
	with("a way too few", func(p *api.Plan) { p.Ways = p.Ways[:last] })
	with("a way too many", func(p *api.Plan) { p.Ways = append(p.Ways, 0) })
	with("no ways", func(p *api.Plan) { p.Ways = nil })
	with("ways twice", func(p *api.Plan) { p.Ways = slices.Repeat(p.Ways, 2) })
	with("a slot too few", func(p *api.Plan) { p.Slots = p.Slots[:last] })
	with("the first slot left out", func(p *api.Plan) { p.Slots = p.Slots[1:] })
	with("a slot too many", func(p *api.Plan) { p.Slots = append(p.Slots, api.Slot{}) })
	with("no slots", func(p *api.Plan) { p.Slots = nil })
	with("slots twice", func(p *api.Plan) { p.Slots = slices.Repeat(p.Slots, 2) })
	for i, pack := range m.Packs {
		wrong := []int{math.MinInt, -1, 4, 5, 256, math.MaxInt, 0}
		if pack.Kind != api.LConv {
			wrong = []int{math.MinInt, -1, 4, 5, 256, math.MaxInt, 1, 2, 3}
		}
		for _, way := range wrong {
			with("the way "+strconv.Itoa(way)+" of the layer "+strconv.Itoa(i), func(p *api.Plan) { p.Ways[i] = way })
		}
		for _, size := range []int{math.MinInt, -p.Slots[i].Size - 1, -1, 0, p.Slots[i].Size - 1, p.Slots[i].Size + 1, 2*p.Slots[i].Size + 1, maxWords, math.MaxInt} {
			if size != p.Slots[i].Size {
				with("the Size "+strconv.Itoa(size)+" of the layer "+strconv.Itoa(i), func(p *api.Plan) { p.Slots[i].Size = size })
			}
		}
		for _, at := range []int{math.MinInt, math.MinInt + 1, math.MinInt + p.Slots[i].Size, -maxWords, -p.Slots[i].Size - 1, -2, -1, p.Words - p.Slots[i].Size + 1, p.Words + 1, maxWords + 1, math.MaxInt - p.Slots[i].Size, math.MaxInt - p.Slots[i].Size + 1, math.MaxInt - 1, math.MaxInt} {
			with("At "+strconv.Itoa(at)+" of the layer "+strconv.Itoa(i), func(p *api.Plan) { p.Slots[i].At = at })
		}
	}
	for _, at := range []int{1, p.Words, p.Words / 2} {
		if at != 0 {
			with("the last slot at "+strconv.Itoa(at), func(p *api.Plan) { p.Slots[last].At = at })
		}
	}
	for _, words := range []int{math.MinInt, math.MinInt32, -2, -1, p.Words - 1, maxWords + 1, 2 * maxWords, 1 << 32, 1<<32 + p.Words, math.MaxInt} {
		with(strconv.Itoa(words)+" words", func(p *api.Plan) { p.Words = words })
	}
	return bad
}

// TestEachSentence: what breaks one of them is refused, in the least arena and in the greatest one.
func TestEachSentence(t *testing.T) {
	for what, m := range models() {
		p := made(t, m)
		checks(t, what, m, p, api.OK)
		for how, bad := range breaks(m, p) {
			checks(t, what+", "+how, m, bad, api.ErrArena)
		}
		p.Words = maxWords
		checks(t, what+", in the greatest arena", m, p, api.OK)
		for how, bad := range breaks(m, p) {
			if bad.Words == maxWords-1 { // a word less is still enough
				checks(t, what+", in a great arena", m, bad, api.OK)
				continue
			}
			checks(t, what+", in the greatest arena, "+how, m, bad, api.ErrArena)
		}
	}
}

// TestNeighbours: two slots at all distances of one another, from either side, inside one another, and with a stranger between.
func TestNeighbours(t *testing.T) {
	for _, sizes := range [][]int{{1, 1}, {1, 4}, {4, 1}, {3, 3}, {2, 5}, {5, 2}} {
		m := row(sizes...)
		for a := range 12 {
			for b := range 12 {
				e := api.OK
				if a < b+sizes[1] && b < a+sizes[0] {
					e = api.ErrArena
				}
				checks(t, "two slots", m, plan([]int{0, 0, 0}, slots(a, sizes[0], b, sizes[1], 0, 0), 20), e)
			}
		}
	}
	// Only neighbours must be apart, and each of them.
	m := row(2, 3, 2, 3)
	ways := make([]int, 5)
	checks(t, "each other slot alike", m, plan(ways, slots(0, 2, 2, 3, 0, 2, 2, 3, 0, 0), 5), api.OK)
	checks(t, "others that lie over one another", m, plan(ways, slots(1, 2, 5, 3, 2, 2, 6, 3, 0, 0), 9), api.OK)
	checks(t, "the first and the last one alike", m, plan(ways, slots(0, 2, 5, 3, 8, 2, 0, 3, 0, 0), 10), api.OK)
	checks(t, "the first two", m, plan(ways, slots(3, 2, 2, 3, 0, 2, 2, 3, 0, 0), 9), api.ErrArena)
	checks(t, "the two between", m, plan(ways, slots(0, 2, 2, 3, 4, 2, 6, 3, 0, 0), 9), api.ErrArena)
	checks(t, "the last two", m, plan(ways, slots(0, 2, 2, 3, 0, 2, 1, 3, 0, 0), 9), api.ErrArena)
	checks(t, "the logits' slot has no words", m, plan(ways, slots(2, 2, 5, 3, 3, 2, 0, 3, 0, 0), 9), api.OK)
	checks(t, "over the whole arena", row(1), plan([]int{0, 0}, slots(maxWords-1, 1, 0, 0), maxWords), api.OK)
	checks(t, "behind the greatest arena", row(1), plan([]int{0, 0}, slots(maxWords, 1, 0, 0), maxWords), api.ErrArena)
	checks(t, "the greatest outputs", great(), plan([]int{1, 3, 0, 0}, slots(3<<24, 1<<24, 0, 1<<24, 1<<24, 74529, 0, 0), maxWords), api.OK)
	checks(t, "the greatest outputs, a word behind", great(), plan([]int{1, 3, 0, 0}, slots(3<<24+1, 1<<24, 0, 1<<24, 1<<24, 74529, 0, 0), maxWords), api.ErrArena)
	checks(t, "the greatest outputs, a word in common", great(), plan([]int{1, 3, 0, 0}, slots(1<<24-1, 1<<24, 0, 1<<24, 1<<24, 74529, 0, 0), maxWords), api.ErrArena)
}

// TestOtherPlans: plans that may be though Make does not answer them.
func TestOtherPlans(t *testing.T) {
	m := chapter()
	for _, p := range []api.Plan{
		plan([]int{2, 0, 0, 0}, slots(4, 16, 0, 4, 18, 2, 0, 0), 20),
		plan([]int{3, 0, 0, 0}, slots(0, 16, 16, 4, 14, 2, 0, 0), 20),
		plan([]int{1, 0, 0, 0}, slots(0, 16, 16, 4, 20, 2, 0, 0), 22),
		plan([]int{1, 0, 0, 0}, slots(2, 16, 18, 4, 7, 2, 0, 0), 22),
		plan([]int{1, 0, 0, 0}, slots(0, 16, 16, 4, 0, 2, 0, 0), maxWords),
		plan([]int{1, 0, 0, 0}, slots(maxWords-16, 16, 0, 4, maxWords-2, 2, 0, 0), maxWords),
	} {
		checks(t, "another plan", m, p, api.OK)
	}
	checks(t, "one layer, words that nobody needs", lone(), plan([]int{0}, slots(0, 0), 5), api.OK)
	checks(t, "one layer, as many words as may be", lone(), plan([]int{0}, slots(0, 0), maxWords), api.OK)
	for _, p := range []api.Plan{{}, plan([]int{0}, nil, 0), plan(nil, slots(0, 0), 0), plan([]int{0}, slots(0, 0), -1), plan([]int{0}, slots(0, 0), maxWords+1), plan([]int{1}, slots(0, 0), 0), plan([]int{0}, slots(1, 0), 1), plan([]int{0}, slots(0, 1), 1), plan([]int{0}, slots(-1, 0), 1), plan([]int{0}, slots(-1, 1), 1), plan([]int{0, 0}, slots(0, 0), 1), plan([]int{0}, slots(0, 0, 0, 0), 1)} {
		checks(t, "one layer", lone(), p, api.ErrArena)
	}
}

// TestOfAnother: a plan for one model is none for another.
func TestOfAnother(t *testing.T) {
	all := models()
	for a, m := range all {
		for b, other := range all {
			e := api.ErrArena
			if a == b {
				e = api.OK
			}
			checks(t, a+" with the plan of "+b, m, made(t, other), e)
		}
	}
}
