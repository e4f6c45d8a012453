package conv

import (
	"math/bits"

	"heddle/api"
)

// direct looks the weights and the signs up where they lie, and makes no patches.
type direct struct {
	task
	words    []uint64
	channels []uint64 // a place's words with the bits of all its channels set
	whole    []int64  // of each row all weights together
}

func directly(t task, words []uint64) direct {
	d := direct{task: t, words: words, channels: make([]uint64, t.wide), whole: make([]int64, len(t.rows))}
	for c := range t.in.C {
		d.channels[c/64] |= 1 << (c % 64)
	}
	for k, row := range t.rows {
		for own := range t.w.R * t.w.S {
			d.whole[k] += d.weigh(row, own)
		}
	}
	return d
}

// strip goes place by place.
func (d direct) strip(sums []int64, first, end int) {
	var seen []pair
	for place := first; place < end; place++ {
		seen = d.seen(seen, place)
		at := (place - first) * len(d.rows)
		for k, row := range d.rows {
			sums[at+k] = d.inside(row, seen) + d.outside(k, seen)
		}
	}
}

// inside is what a row's weights give that see the tensor.
func (d direct) inside(row api.Row, seen []pair) int64 {
	sum := int64(0)
	for _, p := range seen {
		from, at := p.own*d.wide, p.at*d.wide
		for i, channels := range d.channels {
			counts := row.Some.Words[from+i] & channels
			agree := counts &^ (row.Sign.Words[from+i] ^ d.words[at+i])
			sum += surplus(agree, counts)
		}
	}
	return sum
}

// outside is what the other weights of row k give, which see the border.
func (d direct) outside(k int, seen []pair) int64 {
	if d.border == 0 || len(seen) == d.w.R*d.w.S {
		return 0
	}
	lost := d.whole[k]
	for _, p := range seen {
		lost -= d.weigh(d.rows[k], p.own)
	}
	return int64(d.border) * lost
}

// weigh is the sum of a row's weights at one place of the window.
func (d direct) weigh(row api.Row, own int) int64 {
	sum, from := int64(0), own*d.wide
	for i, channels := range d.channels {
		sum += surplus(row.Sign.Words[from+i]&channels, row.Some.Words[from+i]&channels)
	}
	return sum
}

// surplus is how many more of a word's bits that count are pluses than minuses.
func surplus(pluses, counts uint64) int64 {
	return int64(2*bits.OnesCount64(pluses) - bits.OnesCount64(counts))
}
