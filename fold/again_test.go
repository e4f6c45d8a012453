package fold_test

import (
	"sync"
	"testing"

	"heddle/api"
	"heddle/fold"
)

// gift is all that a call may be handed.
type gift struct {
	n api.Norm
	h api.Thresh
	x int64
	r api.Reach
}

// answer is what all calls tell of a gift.
type answer struct {
	folded, trimmed              api.Thresh
	norm                         api.Norm
	foldErr, trimErr, normErr, e api.Errno
	plus                         bool
}

func ask(g gift) answer {
	var a answer
	a.folded, a.foldErr = fold.Fold(g.n)
	a.trimmed, a.trimErr = fold.Trim(g.h, g.r)
	a.norm, a.normErr = fold.Norm(g.h)
	a.e = fold.Check(g.h)
	a.plus = fold.Plus(g.h, g.x)
	return a
}

// gifts are such as are answered, and such as are refused.
func gifts() []gift {
	var list []gift
	any := append(append([]api.Frac{}, either...), wrongs...)
	for i, h := range threshes() {
		n := norm(any[i%len(any)], any[i/3%len(any)], any[i/5%len(any)], above[i%len(above)])
		x, y := edges[i%len(edges)], edges[i/7%len(edges)]
		list = append(list, gift{n, h, x, api.Reach{Lo: min(x, y), Hi: max(x, y)}})
	}
	return list
}

// TestAgain: the same calls again, in another order and from several goroutines, answer the same.
func TestAgain(t *testing.T) {
	list := gifts()
	var first []answer
	for _, g := range list {
		first = append(first, ask(g))
	}
	var group sync.WaitGroup
	for range 4 {
		group.Go(func() {
			for i := len(list) - 1; i >= 0; i-- {
				if a := ask(list[i]); a != first[i] {
					t.Errorf("P16.6: of %v first %v, then %v", list[i], first[i], a)
				}
			}
		})
	}
	group.Wait()
}
