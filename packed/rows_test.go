package packed_test

import (
	"math"
	"slices"
	"testing"

	"heddle/api"
	"heddle/dot"
)

// wide are numbers of channels, and of elements, around whole words.
func wide() []int { return []int{1, 2, 63, 64, 65, 127, 128, 129} }

// seat is a model, and which of its layers is looked at.
type seat struct {
	what     string
	m        api.Model
	layer    int
	channels int // of a place, and
	gap      int // how many bits stand for nothing behind them
}

// seats are models with an LConv, first or behind another layer, and with an LDense, for each of wide, Binary and Ternary.
func seats() []seat {
	var list []seat
	for _, c := range wide() {
		gap := (64 - c%64) % 64
		far := win(2, 1, 1, 1, 0, 0, 1, 0)
		for _, weight := range []int{api.Binary, api.Ternary} {
			for _, s := range []seat{
				{"a first LConv", model(of(2, 2, c), conv(2, win(2, 2, 1, 1, 0, 0, 0, 0), c), last(2, 2)), 0, c, gap},
				{"an LConv behind an LDense", model(of(1, 1, 2), dense(c, 2), conv(3, far, c), last(1, 3)), 1, c, gap},
				{"an LConv behind an LConv", model(of(3, 1, 2), conv(c, point(), 2), conv(2, far, c), last(1, 6)), 1, c, gap},
				{"an LConv behind an LPool", model(of(3, 1, 2), conv(c, point(), 2), pool(win(3, 1, 1, 1, 0, 0, 0, 0)), conv(2, far, c), last(1, 2)), 2, c, gap},
				{"a first LDense", model(of(1, 1, c), dense(2, c), last(1, 2)), 0, c, 0},
				{"a last LDense", model(of(1, c, 1), last(2, c)), 0, c, 0},
				{"a last LDense behind an LConv", model(of(c, 1, 1), conv(1, point(), 1), last(2, c)), 1, c, 0},
			} {
				p := &s.m.Packs[s.layer]
				p.Weight = weight
				turn := []int8{1, -1, -1, 1, 1}
				if weight == api.Ternary {
					turn = []int8{1, 0, -1, -1, 0, 0, 1}
				}
				p.Rows = rowsOf(p.K, max(p.Win.R*p.Win.S, 1), c, s.gap, turn...)
				list = append(list, s)
			}
		}
	}
	return list
}

// rowChecks puts a row for the one at k: it is good, or ErrWeight is told with the layer.
func (s seat) rowChecks(t *testing.T, what string, k int, r api.Row, good bool) {
	t.Helper()
	p := &s.m.Packs[s.layer]
	was := p.Rows[k]
	p.Rows[k] = r
	if good {
		checks(t, s.what+": "+what, s.m, 0, api.OK)
	} else {
		checks(t, s.what+": "+what, s.m, s.layer, api.ErrWeight)
	}
	p.Rows[k] = was
}

// turned is a row with a bit of Sign, of Some, turned.
func turned(r api.Row, i int, sign, some bool) api.Row {
	r.Sign.Words, r.Some.Words = slices.Clone(r.Sign.Words), slices.Clone(r.Some.Words)
	if sign {
		r.Sign.Words[i/64] ^= 1 << (i % 64)
	}
	if some {
		r.Some.Words[i/64] ^= 1 << (i % 64)
	}
	return r
}

// TestEveryBit turns every bit of every row, those behind its end too, in Some, in Sign, in both.
func TestEveryBit(t *testing.T) {
	for _, s := range seats() {
		alike(t, s.what, s.m)
		p := s.m.Packs[s.layer]
		for k, r := range p.Rows {
			for i := range 64 * len(r.Some.Words) {
				counts := i < r.Some.Len && i%(s.channels+s.gap) < s.channels
				ternary := p.Weight == api.Ternary
				weight := 2*bit(r.Sign, i) - bit(r.Some, i)
				s.rowChecks(t, "a bit of Some", k, turned(r, i, false, true), counts && ternary && weight < 1)
				s.rowChecks(t, "a bit of Sign", k, turned(r, i, true, false), counts && weight != 0)
				s.rowChecks(t, "a bit of both", k, turned(r, i, true, true), counts && ternary && weight > -1)
			}
		}
	}
}

// TestRowsThatMayNotBe: rows that dot.Check refuses, and rows of another length, at each place of the list.
func TestRowsThatMayNotBe(t *testing.T) {
	for _, s := range seats() {
		for k, r := range s.m.Packs[s.layer].Rows {
			n := r.Some.Len
			sign, some := r.Sign.Words, r.Some.Words
			more := append(slices.Clone(some), 0)
			less := some[:len(some)-1]
			for what, bad := range map[string]api.Row{
				"nothing":                   {},
				"no Sign":                   {Some: r.Some},
				"no Some":                   {Sign: r.Sign},
				"a word more of Sign":       {Sign: bits(n, append(slices.Clone(sign), 0)...), Some: r.Some},
				"a word more of Some":       {Sign: r.Sign, Some: bits(n, more...)},
				"a word more of both":       row(n, more, more),
				"a word less of Sign":       {Sign: bits(n, sign[1:]...), Some: r.Some},
				"a word less of Some":       {Sign: r.Sign, Some: bits(n, less...)},
				"a word less of both":       row(n, less, less),
				"no words":                  row(n, nil, nil),
				"Len below 0 of Sign":       {Sign: bits(-n, sign...), Some: r.Some},
				"Len below 0 of Some":       {Sign: r.Sign, Some: bits(-1, some...)},
				"Len below 0 of both":       row(-n, sign, some),
				"Len below 0 and no words":  row(-1, nil, nil),
				"the least Len":             row(math.MinInt, sign, some),
				"the greatest Len":          row(math.MaxInt, sign, some),
				"Len 2^24 + 1":              row(1<<24+1, sign, some),
				"Len 2^32 more":             row(n+1<<32, sign, some),
				"Len 0":                     row(0, nil, nil),
				"Len differs":               {Sign: bits(n+1, append(slices.Clone(sign), 0)[:(n+64)/64]...), Some: r.Some},
				"one less":                  cut(r, n-1),
				"one more":                  cut(r, n+1),
				"64 less":                   cut(r, n-64),
				"64 more":                   cut(r, n+64),
				"twice as long":             cut(r, 2*n),
				"a place less":              cut(r, n-s.channels-s.gap),
				"laid without or with gaps": cut(r, n+s.gap+n%64-64),
			} {
				s.rowChecks(t, what, k, bad, false)
			}
			// Some whose last bit is a weight, in a row that is too short to hold it.
			s.rowChecks(t, "a bit behind the end", k, row(n-1, sign, turned(r, n-1, false, bit(r.Some, n-1) == 0).Some.Words), false)
		}
		rows := s.m.Packs[s.layer].Rows
		for what, list := range map[string][]api.Row{
			"no rows": nil, "an empty list": {}, "one less": rows[1:], "the last one less": rows[:len(rows)-1],
			"one more": append(rows[:len(rows):len(rows)], rows[0]), "twice as many": slices.Concat(rows, rows), "4097 rows": slices.Repeat(rows[:1], 4097),
		} {
			m := s.m
			m.Packs = slices.Clone(m.Packs)
			m.Packs[s.layer].Rows = list
			checks(t, s.what+": "+what, m, s.layer, api.ErrWeight)
		}
	}
}

// cut is a row of another length with the same weights, as far as it goes.
func cut(r api.Row, n int) api.Row {
	n = max(n, 0)
	var w []int8
	for i := range n {
		w = append(w, int8(2*bit(r.Sign, i)-bit(r.Some, i)))
	}
	if n == r.Some.Len { // no other length
		return api.Row{}
	}
	other, e := dot.Pack(w...)
	if e != api.OK {
		panic("the test's own row")
	}
	return other
}

// TestPlacesAreApart: a row that is as long as it should be, but laid without gaps, is another one or none.
func TestPlacesAreApart(t *testing.T) {
	for _, c := range []int{1, 3, 63, 65, 127} {
		w := turns(2*c, 1, -1, 1, 1)
		tight, _ := dot.Pack(append(w, make([]int8, 2*((64-c%64)%64))...)...)
		m := model(of(1, 2, c), conv(1, win(1, 2, 1, 1, 0, 0, 0, 0), c), last(1, 1))
		m.Packs[0].Rows = []api.Row{tight}
		checks(t, "without gaps", m, 0, api.ErrWeight)
		m.Packs[0].Weight = api.Ternary
		at, e := faultOf(m)
		checks(t, "without gaps, Ternary", m, at, e)
	}
}

// TestSharedRows: a model whose rows, and whose Sign and Some, share their words.
func TestSharedRows(t *testing.T) {
	words := []uint64{5, 2}
	one := row(128, words, words)
	alike(t, "shared rows", model(of(1, 2, 3),
		api.Pack{Kind: api.LConv, Weight: api.Ternary, K: 3, Win: win(1, 2, 1, 1, 0, 0, 0, 0), Rows: []api.Row{one, one, one}, Threshes: ge(1, 2, 3)}, last(2, 3)))
}
