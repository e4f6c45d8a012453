package cache

import (
	"iter"

	"heddle/api"
)

// entry is a key with its Result, between its neighbours in the row.
type entry struct {
	key    string
	result api.Result
	ahead  *entry // nil, if it is the first
	behind *entry // nil, if it is the last
}

// row is a list of entries, the one that was asked for last first. As each has both neighbours, one is taken out of the midst without a walk.
type row struct {
	first, last *entry
}

// add puts an entry first that is not in the row.
func (r *row) add(e *entry) {
	e.ahead, e.behind = nil, r.first
	if r.first == nil {
		r.last = e
	} else {
		r.first.ahead = e
	}
	r.first = e
}

// drop takes out an entry that is in the row.
func (r *row) drop(e *entry) {
	if e.ahead == nil {
		r.first = e.behind
	} else {
		e.ahead.behind = e.behind
	}
	if e.behind == nil {
		r.last = e.ahead
	} else {
		e.behind.ahead = e.ahead
	}
}

// lead puts an entry first that is in the row.
func (r *row) lead(e *entry) {
	r.drop(e)
	r.add(e)
}

// all goes through the entries in their order. The one at hand may be taken out meanwhile.
func (r *row) all() iter.Seq[*entry] {
	return func(yield func(*entry) bool) {
		for e := r.first; e != nil; {
			behind := e.behind
			if !yield(e) {
				return
			}
			e = behind
		}
	}
}
