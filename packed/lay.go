package packed

import (
	"iter"

	"heddle/api"
	"heddle/dot"
)

// lay is how the weights of an output lie in its row: place by place, the channels of each in words of its own. All that comes into an LDense lies as one place does.
type lay struct {
	places, channels int
	length           int // of the row, in bits
}

// layOf is the lay of a layer's rows.
func layOf(p api.Pack, in api.Shape) lay {
	if p.Kind == api.LDense {
		n := in.H * in.W * in.C
		return lay{places: 1, channels: n, length: n}
	}
	n := p.Win.R * p.Win.S
	return lay{places: n, channels: in.C, length: n * 64 * wordsFor(in.C)}
}

// wordsFor is how many words so many bits take.
func wordsFor(bits int) int { return (bits + 63) / 64 }

// weights is how many weights an output has.
func (l lay) weights() int { return l.places * l.channels }

// blank is a row without a bit that is set.
func (l lay) blank() api.Row {
	words := wordsFor(l.length)
	return api.Row{
		Sign: api.Bits{Len: l.length, Words: make([]uint64, words)},
		Some: api.Bits{Len: l.length, Words: make([]uint64, words)},
	}
}

// mask is the bits of a place's word that stand for channels.
func (l lay) mask(word int) uint64 {
	bits := min(64, l.channels-64*word)
	return ^uint64(0) >> (64 - bits)
}

// mayBe tells whether a row may be one of an output with such weights, Binary or Ternary.
func (l lay) mayBe(r api.Row, weight int) bool {
	if dot.Check(r) != api.OK || r.Some.Len != l.length {
		return false
	}
	for words := range l.cut(r) {
		for i, some := range words.some {
			mask := l.mask(i)
			if some&^mask != 0 || weight == api.Binary && some != mask {
				return false
			}
		}
	}
	return true
}

// place is the words of one place of a row.
type place struct {
	sign, some []uint64
}

// cut is the places of a row, one after the other; the row must be as long as it should be.
func (l lay) cut(r api.Row) iter.Seq[place] {
	return func(yield func(place) bool) {
		wide := wordsFor(l.channels)
		for i := range l.places {
			from, to := i*wide, (i+1)*wide
			if !yield(place{r.Sign.Words[from:to:to], r.Some.Words[from:to:to]}) {
				return
			}
		}
	}
}

// at is the weight of a channel.
func (p place) at(channel int) int8 {
	word, mask := channel/64, uint64(1)<<(channel%64)
	switch {
	case p.some[word]&mask == 0:
		return 0
	case p.sign[word]&mask == 0:
		return -1
	}
	return 1
}

// set lays the weight of a channel, of which no bit is set yet.
func (p place) set(channel int, weight int8) {
	word, mask := channel/64, uint64(1)<<(channel%64)
	if weight != 0 {
		p.some[word] |= mask
	}
	if weight > 0 {
		p.sign[word] |= mask
	}
}
