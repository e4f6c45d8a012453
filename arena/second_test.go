package arena_test

import (
	"math"
	"math/big"
	"testing"

	"heddle/api"
	"heddle/arena"
)

// dice gives numbers that look like any, the same ones in every run of the tests.
type dice uint64

// roll is a number from least to most.
func (d *dice) roll(least, most int) int {
	*d = *d*6364136223846793005 + 1442695040888963407
	return least + int(uint64(*d)>>33)%(most-least+1)
}

func one[T any](d *dice, list ...T) T { return list[d.roll(0, len(list)-1)] }

// model is one of one to eight layers.
func (d *dice) model() api.Model {
	in := of(d.roll(1, 5), d.roll(1, 5), one(d, 1, 2, 63, 64, 65))
	first := in
	var packs []api.Pack
	for len(packs) < d.roll(0, 7) {
		k := one(d, 1, 2, 3, 63, 64, 65, 128, 129)
		r, s, y, x := d.roll(1, min(3, in.H)), d.roll(1, min(3, in.W)), d.roll(1, 3), d.roll(1, 3)
		kind := d.roll(1, 3)
		switch {
		case kind == api.LDense:
			packs = append(packs, dense(k))
		case kind == api.LPool && len(packs) > 0:
			packs = append(packs, pool(win(r, s, y, x, 0, 0, 0, 0)))
		default:
			packs = append(packs, conv(k, win(r, s, y, x, d.roll(0, 2), d.roll(0, 2), d.roll(0, 2), d.roll(0, 2))))
		}
		in = outOf(packs[len(packs)-1], in)
	}
	return model(first, append(packs, dense(d.roll(1, 3)))...)
}

// ways are n ways that may be given.
func (d *dice) ways(m api.Model, n int) []int {
	list := make([]int, n)
	for i := range list {
		if m.Packs[i].Kind == api.LConv {
			list[i] = d.roll(0, 3)
		}
	}
	return list
}

// mayBe tells, sentence by sentence and word by word, whether a plan may be.
func mayBe(m api.Model, p api.Plan) bool {
	sizes := sizesOf(m)
	if len(p.Ways) != len(sizes) || len(p.Slots) != len(sizes) || p.Words < 0 || p.Words > maxWords {
		return false
	}
	ahead := map[int]int{}
	for i, s := range p.Slots {
		conv := m.Packs[i].Kind == api.LConv
		if conv && p.Ways[i] != 1 && p.Ways[i] != 2 && p.Ways[i] != 3 || !conv && p.Ways[i] != 0 {
			return false
		}
		if i == len(sizes)-1 {
			return s.At == 0 && s.Size == 0
		}
		end := new(big.Int).Add(big.NewInt(int64(s.At)), big.NewInt(int64(s.Size)))
		if s.Size != sizes[i] || s.At < 0 || end.Cmp(big.NewInt(int64(p.Words))) > 0 {
			return false
		}
		own := map[int]int{}
		for word := s.At; word < s.At+s.Size; word++ {
			if ahead[word] > 0 {
				return false
			}
			own[word] = 1
		}
		ahead = own
	}
	return true
}

// agrees: Check answers what mayBe tells, which is told back.
func agrees(t *testing.T, m api.Model, p api.Plan) bool {
	t.Helper()
	may := mayBe(m, p)
	if e := arena.Check(m, p); (e == api.OK) != may || e != api.OK && e != api.ErrArena {
		t.Errorf("P21.2: Check answers %d, and that it may be is %t: sizes %v, %+v", e, may, sizesOf(m), p)
	}
	return may
}

// spoil changes one number of a plan, or how many there are.
func (d *dice) spoil(p *api.Plan) {
	i := d.roll(0, max(len(p.Slots), len(p.Ways))-1)
	some := func(x int) int {
		return one(d, x+1, x-1, -x, 0, 1, 2, 3, d.roll(0, 99), maxWords, maxWords+1, maxWords-x, 1<<32+x, math.MinInt, math.MinInt+x, math.MaxInt, math.MaxInt-x)
	}
	switch d.roll(0, 9) {
	case 0:
		p.Words = some(p.Words)
	case 1:
		p.Ways = append(p.Ways, one(d, 0, 1))
	case 2:
		p.Slots = append(p.Slots, api.Slot{})
	case 3:
		p.Ways = p.Ways[:min(i, len(p.Ways))]
	case 4:
		p.Slots = p.Slots[:min(i, len(p.Slots))]
	case 5:
		if i < len(p.Ways) {
			p.Ways[i] = some(p.Ways[i])
		}
	case 6:
		if i < len(p.Slots) {
			p.Slots[i].Size = some(p.Slots[i].Size)
		}
	default:
		if i < len(p.Slots) {
			p.Slots[i].At = some(p.Slots[i].At)
		}
	}
}

// TestAnyPlans: Make's plans with one to three changes anywhere, in arenas of all sorts.
func TestAnyPlans(t *testing.T) {
	d := dice(210)
	good, all := 0, 0
	for range 400 {
		m := d.model()
		p := made(t, m, d.ways(m, d.roll(0, len(m.Packs)))...)
		for range 50 {
			other := own(p)
			other.Words += one(&d, 0, 0, 1, 5, 100)
			for range d.roll(1, 3) {
				if len(other.Slots)+len(other.Ways) > 0 {
					d.spoil(&other)
				}
			}
			if all++; agrees(t, m, other) {
				good++
			}
		}
	}
	if good < all/50 || good > all/2 {
		t.Errorf("the test's own plans: %d of %d may be", good, all)
	}
}

// TestAnyPlaces: slots of the right sizes, anywhere in arenas that are about large enough.
func TestAnyPlaces(t *testing.T) {
	d := dice(211)
	good, all := 0, 0
	for range 6000 {
		var words []int
		for range d.roll(1, 5) {
			words = append(words, d.roll(1, 5))
		}
		m := row(words...)
		p := made(t, m)
		p.Words += d.roll(-1, 6)
		for i, s := range p.Slots[:len(words)] {
			p.Slots[i].At = d.roll(0, max(p.Words-s.Size, 0))
		}
		if all++; agrees(t, m, p) {
			good++
		}
	}
	if good < all/20 || good > all*19/20 {
		t.Errorf("the test's own plans: %d of %d may be", good, all)
	}
}
