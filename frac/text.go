package frac

import (
	"strconv"
	"strings"

	"heddle/api"
)

// Show writes a fraction.
func Show(f api.Frac) (string, api.Errno) {
	if e := Check(f); e != api.OK {
		return "", e
	}
	text := strconv.FormatInt(f.Num, 10)
	if f.Den != 1 {
		text += "/" + strconv.FormatInt(f.Den, 10)
	}
	return text, api.OK
}

// Read reads a fraction.
func Read(s string) (api.Frac, api.Errno) {
	num, den, two := strings.Cut(s, "/")
	if !two {
		den = "1"
	}
	n, errNum := strconv.ParseInt(num, 10, 64)
	d, errDen := strconv.ParseInt(den, 10, 64)
	if errNum != nil || errDen != nil {
		return api.Frac{}, api.ErrFrac
	}
	f := api.Frac{Num: n, Den: d}
	// A number can be written in more ways than one: the one that Show writes is the one that counts.
	if text, e := Show(f); e != api.OK || text != s {
		return api.Frac{}, api.ErrFrac
	}
	return f, api.OK
}
