package conv

import (
	"heddle/api"
	"heddle/dot"
)

// byPlanes takes the sums over numbers, bit by bit of them.
type byPlanes struct {
	task
	numbers []int8
}

func (p byPlanes) strip(sums []int64, first, end int) {
	places := p.planes(first, end)
	for k, row := range p.rows {
		for i, planes := range places {
			// The row may be and the planes are as long as it is, so this is not refused.
			sums[i*len(p.rows)+k], _ = dot.Numbers(row, planes)
		}
	}
}

// planes are the eight of each place, with what the window sees there laid as a row's bits lie.
func (p byPlanes) planes(first, end int) [][8]api.Bits {
	border := p.borderAlone()
	view := make([]int8, len(border))
	var seen []pair
	made := make([][8]api.Bits, 0, end-first)
	for place := first; place < end; place++ {
		copy(view, border)
		seen = p.seen(seen, place)
		for _, s := range seen {
			copy(view[s.own*64*p.wide:], p.numbers[s.at*p.in.C:(s.at+1)*p.in.C])
		}
		planes, _ := dot.Planes(view...)
		made = append(made, planes)
	}
	return made
}

// borderAlone is what a window sees where there is nothing but the border. Behind a place's channels it is 0, so that nothing counts there, whatever the row has.
func (p byPlanes) borderAlone() []int8 {
	view := make([]int8, 64*p.patchWords())
	for i := range view {
		if i%(64*p.wide) < p.in.C {
			view[i] = int8(p.border)
		}
	}
	return view
}
