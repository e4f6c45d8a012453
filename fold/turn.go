package fold

import (
	"heddle/api"
	"heddle/wide"
)

// beyond is the least number above all sums; whatever lies further out tells the same of them.
const beyond = api.MaxSum + 1

// rounding is a quotient of wide's, rounded up or down.
type rounding func(a api.Wide, b int64) (api.Wide, api.Errno)

// turn is where a norm whose G is not 0 is just not below 0: M - B * S / G, rounded, and cut to what lies just beyond the sums.
func turn(n api.Norm, round rounding) int64 {
	// Over one denominator: each of the two has at most 102 bits, so their sum fits.
	mean := product(n.M.Num, n.G.Num, n.B.Den, n.S.Den)
	shift := product(-1, n.B.Num, n.S.Num, n.G.Den, n.M.Den)
	place, _ := wide.Add(mean, shift)
	// To round at each step comes to the same as to round once at the end, if what is divided by behind the first step is above 0: so G, which may be below it, goes first.
	for _, divisor := range [...]int64{n.G.Num, n.M.Den, n.B.Den, n.S.Den} {
		place, _ = round(place, divisor)
	}
	return cut(place)
}

// product is that of all factors; the caller sees to it that it fits.
func product(factors ...int64) api.Wide {
	all := wide.Of(1)
	for _, n := range factors {
		all, _ = wide.Scale(all, n)
	}
	return all
}

// cut is a, or the end beyond which it lies.
func cut(a api.Wide) int64 {
	if wide.Cmp(a, wide.Of(beyond)) > 0 {
		return beyond
	}
	if wide.Cmp(a, wide.Of(-beyond)) < 0 {
		return -beyond
	}
	n, _ := wide.Fit(a)
	return n
}
