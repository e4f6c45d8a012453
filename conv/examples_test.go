package conv_test

import (
	"testing"

	"heddle/api"
	"heddle/conv"
)

// TestExamples: the chapter's.
func TestExamples(t *testing.T) {
	s := shapeOf(2, 2, 1)
	c := api.Cube{Shape: s, Words: []uint64{1, 0, 1, 1}}
	w := win(2, 2, 1, 1, 1, 1)
	one := []api.Row{laid(1, []int8{1, 1, 1, 1})}
	two := append(one[:1:1], laid(1, []int8{-1, -1, -1, 0}))
	for _, f := range ways {
		for _, x := range []struct {
			border int
			rows   []api.Row
			is     []int64
		}{
			{0, one, []int64{1, 0, 2, 2}}, {1, one, []int64{4, 2, 4, 2}}, {-1, one, []int64{-2, -2, 0, 2}},
			{0, two, []int64{1, 0, 0, -1, 2, -1, 2, -1}},
		} {
			l, shape, e := f.call(c, w, x.border, x.rows)
			want(t, told("P14.2: "+f.what, s, w, x.border), l, shape, e, x.is, shapeOf(2, 2, len(x.rows)))
		}
		l, shape, e := f.call(c, w, 0, nil)
		refused(t, f.what+" of no rows", l, shape, e, api.ErrShape)
		l, shape, e = f.call(c, w, 2, one)
		refused(t, f.what+" with border 2", l, shape, e, api.ErrWindow)
		l, shape, e = f.call(c, w, 0, []api.Row{{Sign: bitsOf(4, 15), Some: bitsOf(4, 15)}})
		refused(t, f.what+" with a row of 4 bits", l, shape, e, api.ErrBits)
	}
}

// TestExamplesOfNumbers: the chapter's.
func TestExamplesOfNumbers(t *testing.T) {
	s, w := shapeOf(2, 2, 1), win(2, 2, 1, 1, 1, 1)
	one := []api.Row{laid(1, []int8{1, 1, 1, 1})}
	for _, x := range []struct {
		vals   []int8
		border int
		is     []int64
	}{
		{[]int8{1, -1, 1, 1}, 0, []int64{1, 0, 2, 2}},
		{[]int8{127, -128, 5, 0}, 0, []int64{127, -1, 132, 4}}, {[]int8{127, -128, 5, 0}, 1, []int64{130, 1, 134, 4}},
	} {
		l, shape, e := conv.Numbers(s, x.vals, w, x.border, one)
		want(t, told("P14.4: Numbers", s, w, x.border), l, shape, e, x.is, s)
	}
	l, shape, e := conv.Numbers(s, []int8{1, -1, 1}, w, 0, one)
	refused(t, "Numbers with three numbers", l, shape, e, api.ErrFit)
}
