package frac_test

import (
	"fmt"
	"math/big"
	"regexp"
	"strings"
	"testing"

	"heddle/api"
	"heddle/frac"
)

func TestShowAndReadAtAllEdges(t *testing.T) {
	for _, f := range all() {
		want := ""
		if fault(f) == api.OK {
			if want = fmt.Sprintf("%d/%d", f.Num, f.Den); f.Den == 1 {
				want = fmt.Sprint(f.Num)
			}
		}
		s, e := frac.Show(f)
		if s != want || e != fault(f) {
			t.Errorf("P4.6: Show(%v) = %q, %d, want %q, %d", f, s, e, want, fault(f))
		}
		if e == api.OK {
			if g, e := frac.Read(s); g != f || e != api.OK {
				t.Errorf("P4.6: Read(%q) = %v, %d, want %v", s, g, e, f)
			}
			continue
		}
		for _, s := range []string{fmt.Sprintf("%d/%d", f.Num, f.Den), fmt.Sprint(f.Num) + "/1"} {
			if g, e := frac.Read(s); g != (api.Frac{}) || e != api.ErrFrac {
				t.Errorf("P4.6: Read(%q) = %v, %d, want ErrFrac", s, g, e)
			}
		}
	}
}

func TestTextsOfTheDocument(t *testing.T) {
	for _, c := range []struct {
		f api.Frac
		s string
	}{
		{of(3, 2), "3/2"},
		{of(4, 2), "4/2"},
		{of(-7, 1), "-7"},
		{of(0, 5), "0/5"},

		{of(0, 1), "0"},
		{of(-1, maxDen), "-1/1048576"},
		{of(maxNum, 1), "2147483647"},
		{of(-maxNum, maxDen), "-2147483647/1048576"},
		{of(10, 10), "10/10"},
	} {
		if s, e := frac.Show(c.f); s != c.s || e != api.OK {
			t.Errorf("P4.6: Show(%v) = %q, %d, want %q", c.f, s, e, c.s)
		}
		if f, e := frac.Read(c.s); f != c.f || e != api.OK {
			t.Errorf("P4.6: Read(%q) = %v, %d, want %v", c.s, f, e, c.f)
		}
	}
	if s, e := frac.Show(of(1, 0)); s != "" || e != api.ErrFrac {
		t.Errorf("P4.6: Show of no fraction = %q, %d", s, e)
	}
}

func TestReadOfWrongTexts(t *testing.T) {
	long := strings.Repeat("9", 1000)
	for _, s := range []string{
		"7/1", "+3", "-0", "03", "3/02", "3/0", "3/-2", "3/", "/2", "3 /2", "2147483648", "",

		// Signs that may not be.
		"-", "+", "--3", "-+3", "+-3", "3-", "3/+2", "-0/2", "+0", "3/-0", "-3/-2", "\u22123",
		// Zeroes ahead.
		"00", "00/2", "-03", "0003/2", "3/00", "3/01", "0x3", "0b1", "0o7",
		// Blanks and what is no digit.
		" ", " 3", "3 ", "3/ 2", "3/2 ", "3\n", "3/2\n", "\t3", "3\x00", "1_000", "1e3", "1.5", "1,5", "a", "3/b", "\u0663", "\uff13", "\xff", "3/\xff",
		// Denominators of 1, and strokes that are too many or stand alone.
		"0/1", "-7/1", "2147483647/1", "/", "//", "//2", "3//2", "3/2/", "3/2/1", "/3/2", "-/2", "3/-", "3\\2",
		// Numbers that are too great, for a fraction and for any word.
		"-2147483648", "2147483648/2", "-2147483648/2", "1/1048577", "3/2147483648", "4294967297", "1/4294967298",
		"9223372036854775807", "9223372036854775808", "-9223372036854775808", "-9223372036854775809",
		"18446744073709551615", "18446744073709551616", "18446744073709551617", "18446744073709551619/2", "3/18446744073709551618",
		"340282366920938463463374607431768211459", long, "-" + long, long + "/2", "3/" + long, "1" + strings.Repeat("0", 1000), "3/1" + strings.Repeat("0", 1000),
		strings.Repeat("0", 1000) + "3", "3/" + strings.Repeat("0", 1000) + "2", strings.Repeat("/", 1000), strings.Repeat("-", 1000) + "3",
	} {
		if f, e := frac.Read(s); f != (api.Frac{}) || e != api.ErrFrac {
			t.Errorf("P4.6: Read(%q) = %v, %d, want ErrFrac", s, f, e)
		}
	}
}

var written = regexp.MustCompile(`^(0|-?[1-9][0-9]*)(?:/([1-9][0-9]*))?$`)

// told is the fraction that is written as s, with numbers of any length, and whether there is one.
func told(s string) (api.Frac, bool) {
	parts := written.FindStringSubmatch(s)
	if parts == nil || parts[2] == "1" {
		return api.Frac{}, false
	}
	if parts[2] == "" {
		parts[2] = "1"
	}
	num, _ := new(big.Int).SetString(parts[1], 10)
	den, _ := new(big.Int).SetString(parts[2], 10)
	if !num.IsInt64() || !den.IsInt64() {
		return api.Frac{}, false
	}
	f := of(num.Int64(), den.Int64())
	if fault(f) != api.OK {
		return api.Frac{}, false
	}
	return f, true
}

// readsAsTold holds Read against the form of a text.
func readsAsTold(t *testing.T, s string) {
	t.Helper()
	want, is := told(s)
	wantErr := api.OK
	if !is {
		wantErr = api.ErrFrac
	}
	if f, e := frac.Read(s); f != want || e != wantErr {
		t.Errorf("P4.6: Read(%q) = %v, %d, want %v, %d", s, f, e, want, wantErr)
	}
}

func TestReadOfAllShortTexts(t *testing.T) {
	const letters = "0129-+/ _x"
	texts := []string{""}
	for range 6 {
		var longer []string
		for _, s := range texts {
			readsAsTold(t, s)
			if len(s) < 5 {
				for i := range len(letters) {
					longer = append(longer, s+letters[i:i+1])
				}
			}
		}
		texts = longer
	}
}

func TestReadAroundTheLimits(t *testing.T) {
	for num := int64(maxNum - 20); num <= maxNum+20; num++ {
		for _, den := range []int64{1, 2, maxDen - 1, maxDen, maxDen + 1, maxDen + 10} {
			readsAsTold(t, fmt.Sprintf("%d/%d", num, den))
			readsAsTold(t, fmt.Sprintf("-%d/%d", num, den))
			readsAsTold(t, fmt.Sprint(num))
			readsAsTold(t, fmt.Sprint(-num))
		}
	}
}
