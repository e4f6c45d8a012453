package dot

import "heddle/api"

// planeWeighs is what a bit of each plane adds to a number in two's complement.
var planeWeighs = [8]int64{1, 2, 4, 8, 16, 32, 64, -128}

// Planes cuts numbers into eight rows of bits.
func Planes(x ...int8) ([8]api.Bits, api.Errno) {
	var planes [8]api.Bits
	if len(x) > api.MaxElems {
		return planes, api.ErrLong
	}
	for p := range planes {
		planes[p] = planeOf(p, x)
	}
	return planes, api.OK
}

// Numbers is the sum of weights times numbers.
func Numbers(r api.Row, p [8]api.Bits) (int64, api.Errno) {
	if e := Check(r); e != api.OK {
		return 0, e
	}
	for _, plane := range p {
		if !fits(plane, r.Sign.Len) {
			return 0, api.ErrBits
		}
	}
	sum := int64(0)
	for i, plane := range p {
		sum += planeWeighs[i] * overPlane(r, plane)
	}
	return sum, api.OK
}

// planeOf is the row of the numbers' bits p.
func planeOf(p int, x []int8) api.Bits {
	b := blank(len(x))
	for i, n := range x {
		if uint8(n)>>p&1 == 1 {
			set(b, i)
		}
	}
	return b
}

// overPlane is the sum of the weights at the places that are set in a plane. Only these count, and there the plane's bit is a plus for the weight's sign to agree with.
func overPlane(r api.Row, plane api.Bits) int64 {
	sum := int64(0)
	for i, word := range plane.Words {
		sum += tally(r.Some.Words[i]&word, r.Sign.Words[i], word)
	}
	return sum
}
