package engine

import (
	"sync"

	"heddle/api"
)

// keptWords is how many words all arenas together have at most that an engine keeps. Greater ones are made anew for each run: beside what such a run does this is little, and an engine that stands idle is not to hold that much.
const keptWords = 1 << 20

// store makes arenas for runs, and keeps them for the next ones. A plan may have far more words than its slots take: an arena has those alone from where the first slot begins up to where the last one ends.
type store struct {
	first int // the number, in the plan, of an arena's first word
	size  int // the words of an arena

	mutex sync.Mutex // guards what is kept
	kept  [][]uint64
}

// storeFor is the store for a plan that may be.
func storeFor(p api.Plan) *store {
	first, end := p.Words, 0
	// The last layer's slot lies nowhere, though it tells a place.
	for _, slot := range p.Slots[:len(p.Slots)-1] {
		first = min(first, slot.At)
		end = max(end, slot.At+slot.Size)
	}
	return &store{first: first, size: max(0, end-first)}
}

// take gives an arena of whatever bits, which nobody else has until it is given back.
func (s *store) take() []uint64 {
	if words, there := s.takeKept(); there {
		return words
	}
	return make([]uint64, s.size)
}

// takeKept gives one that was kept, if there is one.
func (s *store) takeKept() ([]uint64, bool) {
	s.mutex.Lock()
	defer s.mutex.Unlock()
	last := len(s.kept) - 1
	if last < 0 {
		return nil, false
	}
	words := s.kept[last]
	// Not to be held here too: it may never be given back.
	s.kept[last] = nil
	s.kept = s.kept[:last]
	return words, true
}

// give takes an arena back.
func (s *store) give(words []uint64) {
	s.mutex.Lock()
	defer s.mutex.Unlock()
	if (len(s.kept)+1)*s.size <= keptWords {
		s.kept = append(s.kept, words)
	}
}

// cut is the words of a slot within an arena; of the last layer's none.
func (s *store) cut(words []uint64, slot api.Slot) []uint64 {
	from := max(0, slot.At-s.first)
	to := min(from+slot.Size, len(words))
	return words[from:to:to]
}
