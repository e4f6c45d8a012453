package wide

import (
	"math/bits"
	"strconv"
	"strings"

	"heddle/api"
)

// wordDigits is how many digits a word always holds: 10^19 is the greatest power of ten below 2^64.
const wordDigits = 19

// tens holds the powers of ten that a word holds.
var tens = [wordDigits + 1]uint64{
	1,
	10,
	100,
	1000,
	10000,
	100000,
	1000000,
	10000000,
	100000000,
	1000000000,
	10000000000,
	100000000000,
	1000000000000,
	10000000000000,
	100000000000000,
	1000000000000000,
	10000000000000000,
	100000000000000000,
	1000000000000000000,
	10000000000000000000,
}

// Show writes a number.
func Show(a api.Wide) string {
	s := sizeOf(a)
	// The upper word is at most 2^63, which is below 10^19: so the front fits one word, as Div64 demands.
	front, back := bits.Div64(s.hi, s.lo, tens[wordDigits])
	text := strconv.FormatUint(back, 10)
	if front != 0 {
		text = strconv.FormatUint(front, 10) + strings.Repeat("0", wordDigits-len(text)) + text
	}
	if a.Hi < 0 {
		text = "-" + text
	}
	return text
}

// Read reads a number.
func Read(s string) (api.Wide, api.Errno) {
	digits, minus := strings.CutPrefix(s, "-")
	if !isWritten(digits) || minus && digits == "0" {
		return api.Wide{}, api.ErrArg
	}
	n, fits := sizeOfDigits(digits)
	if !fits {
		return api.Wide{}, api.ErrRange
	}
	return signed(n, minus)
}

// isWritten tells whether s is how Show writes a number that is not negative, of whatever length.
func isWritten(s string) bool {
	if s == "" || s[0] == '0' && s != "0" {
		return false
	}
	for i := range len(s) {
		if s[i] < '0' || s[i] > '9' {
			return false
		}
	}
	return true
}

// sizeOfDigits is the number that digits tell, and whether it fits two words. It takes as many digits at a time as a word holds.
func sizeOfDigits(digits string) (size, bool) {
	var n size
	for digits != "" {
		piece := digits[:min(len(digits), wordDigits)]
		digits = digits[len(piece):]
		moved, fits := n.times(tens[len(piece)])
		if !fits {
			return size{}, false
		}
		if n, fits = moved.plus(wordOfDigits(piece)); !fits {
			return size{}, false
		}
	}
	return n, true
}

// wordOfDigits is the number that at most wordDigits digits tell.
func wordOfDigits(digits string) uint64 {
	var n uint64
	for i := range len(digits) {
		n = n*10 + uint64(digits[i]-'0')
	}
	return n
}
