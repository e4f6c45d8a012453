package wide_test

import (
	"math"
	"math/big"
	"strings"
	"sync"
	"testing"

	"heddle/api"
	"heddle/wide"
)

var (
	least = api.Wide{Hi: math.MinInt64}
	most  = api.Wide{Hi: math.MaxInt64, Lo: math.MaxUint64}
)

// exact is the number as the document's section 'Words' tells it.
func exact(a api.Wide) *big.Int {
	n := new(big.Int).Lsh(big.NewInt(a.Hi), 64)
	return n.Add(n, new(big.Int).SetUint64(a.Lo))
}

// wideOf is the Wide of an exact number, with ErrRange where there is none.
func wideOf(n *big.Int) (api.Wide, api.Errno) {
	lo := new(big.Int).And(n, new(big.Int).SetUint64(math.MaxUint64))
	hi := new(big.Int).Rsh(n, 64)
	if !hi.IsInt64() {
		return api.Wide{}, api.ErrRange
	}
	return api.Wide{Hi: hi.Int64(), Lo: lo.Uint64()}, api.OK
}

// shuffled is a row of words that look like chance, the same each time.
func shuffled(count int) []uint64 {
	var words []uint64
	state := uint64(1)
	for range count {
		state = state*6364136223846793005 + 1442695040888963407
		words = append(words, state^state>>29)
	}
	return words
}

// narrows are numbers of 64 bits: edges, neighbours of powers of two and of ten, and others.
func narrows() []int64 {
	list := []int64{0, math.MinInt64, math.MinInt64 + 1, math.MaxInt64, math.MaxInt64 - 1}
	for _, shift := range []uint{0, 1, 2, 20, 31, 32, 33, 61, 62} {
		p := int64(1) << shift
		list = append(list, p-1, p, p+1, 1-p, -p, -p-1)
	}
	for _, n := range []int64{3, 7, 10, 1e9, 1e18, 1e18 - 1} {
		list = append(list, n, -n)
	}
	for i, w := range shuffled(24) {
		list = append(list, int64(w)>>(i*5%64))
	}
	return list
}

// wides are numbers of 128 bits: edges, words that carry, powers of ten, and others.
func wides() []api.Wide {
	his := []int64{0, 1, 2, -1, -2, 1 << 31, 1 << 62, 1<<62 - 1, -1 << 62, math.MaxInt64, math.MaxInt64 - 1, math.MinInt64, math.MinInt64 + 1}
	los := []uint64{0, 1, 2, 1 << 32, 1<<63 - 1, 1 << 63, 1<<63 + 1, math.MaxUint64 - 1, math.MaxUint64}
	var list []api.Wide
	for _, hi := range his {
		for _, lo := range los {
			list = append(list, api.Wide{Hi: hi, Lo: lo})
		}
	}
	for _, n := range powersOfTen() {
		for _, near := range []int64{-1, 0, 1} {
			a, _ := wideOf(new(big.Int).Add(n, big.NewInt(near)))
			b, _ := wideOf(new(big.Int).Neg(new(big.Int).Add(n, big.NewInt(near))))
			list = append(list, a, b)
		}
	}
	words := shuffled(64)
	for i := 0; i < len(words); i += 2 {
		list = append(list, api.Wide{Hi: int64(words[i]) >> (i * 7 % 64), Lo: words[i+1]})
	}
	return list
}

// powersOfTen are those that fit: 10^0 to 10^38.
func powersOfTen() []*big.Int {
	list := []*big.Int{big.NewInt(1)}
	for len(list) < 39 {
		list = append(list, new(big.Int).Mul(list[len(list)-1], big.NewInt(10)))
	}
	return list
}

// floorOf is the greatest whole number that is not above a / b.
func floorOf(a, b *big.Int) *big.Int {
	q, rest := new(big.Int).QuoRem(a, b, new(big.Int))
	if rest.Sign() != 0 && rest.Sign() != b.Sign() {
		q.Sub(q, big.NewInt(1))
	}
	return q
}

// ceilOf is the least whole number that is not below a / b.
func ceilOf(a, b *big.Int) *big.Int {
	q := floorOf(new(big.Int).Neg(a), b)
	return q.Neg(q)
}

// same tells of an answer that is not the exact number, or not the refusal of a number that does not fit.
func same(t *testing.T, call string, got api.Wide, e api.Errno, number *big.Int) {
	t.Helper()
	want, wantErr := wideOf(number)
	if got != want || e != wantErr {
		t.Errorf("%s = %v, %d; want %v, %d", call, got, e, want, wantErr)
	}
}

func TestOf(t *testing.T) {
	for _, n := range narrows() {
		same(t, "P1.1: Of", wide.Of(n), api.OK, big.NewInt(n))
	}
	if a := wide.Of(-1); a != (api.Wide{Hi: -1, Lo: 18446744073709551615}) {
		t.Errorf("P1.1: Of(-1) = %v", a)
	}
	if a := wide.Of(5); a != (api.Wide{Lo: 5}) {
		t.Errorf("P1.1: Of(5) = %v", a)
	}
}

func TestMul(t *testing.T) {
	for _, a := range narrows() {
		for _, b := range narrows() {
			same(t, "P1.1: Mul", wide.Mul(a, b), api.OK, new(big.Int).Mul(big.NewInt(a), big.NewInt(b)))
		}
	}
	if a := wide.Mul(math.MinInt64, math.MinInt64); a != (api.Wide{Hi: 4611686018427387904}) {
		t.Errorf("P1.1: Mul of the least two = %v", a)
	}
	if a := wide.Mul(math.MaxInt64, -2); a != (api.Wide{Hi: -1, Lo: 2}) || wide.Show(a) != "-18446744073709551614" {
		t.Errorf("P1.1: Mul(2^63 - 1, -2) = %v", a)
	}
}

func TestAdd(t *testing.T) {
	for _, a := range wides() {
		for _, b := range wides() {
			got, e := wide.Add(a, b)
			same(t, "P1.2: Add", got, e, new(big.Int).Add(exact(a), exact(b)))
		}
	}
	if _, e := wide.Add(most, wide.Of(1)); e != api.ErrRange {
		t.Errorf("P1.2: Add(max, 1): %d", e)
	}
	if _, e := wide.Add(least, wide.Of(-1)); e != api.ErrRange {
		t.Errorf("P1.2: Add(min, -1): %d", e)
	}
	if a, e := wide.Add(most, least); a != wide.Of(-1) || e != api.OK {
		t.Errorf("P1.2: Add(max, min) = %v, %d", a, e)
	}
}

func TestNeg(t *testing.T) {
	for _, a := range wides() {
		got, e := wide.Neg(a)
		same(t, "P1.2: Neg", got, e, new(big.Int).Neg(exact(a)))
	}
	if a, e := wide.Neg(least); a != (api.Wide{}) || e != api.ErrRange {
		t.Errorf("P1.2: Neg(min) = %v, %d", a, e)
	}
	if a, e := wide.Neg(most); a != (api.Wide{Hi: -9223372036854775808, Lo: 1}) || e != api.OK {
		t.Errorf("P1.2: Neg(max) = %v, %d", a, e)
	}
}

func TestScale(t *testing.T) {
	for _, a := range wides() {
		for _, b := range narrows() {
			got, e := wide.Scale(a, b)
			same(t, "P1.2: Scale", got, e, new(big.Int).Mul(exact(a), big.NewInt(b)))
		}
	}
	if a, e := wide.Scale(least, -1); a != (api.Wide{}) || e != api.ErrRange {
		t.Errorf("P1.2: Scale(min, -1) = %v, %d", a, e)
	}
	if a, e := wide.Scale(api.Wide{Hi: 1}, math.MinInt64); a != least || e != api.OK {
		t.Errorf("P1.2: Scale(2^64, -2^63) = %v, %d", a, e)
	}
	if a, e := wide.Scale(api.Wide{Hi: 1, Lo: 1}, math.MinInt64); a != (api.Wide{}) || e != api.ErrRange {
		t.Errorf("P1.2: Scale(2^64 + 1, -2^63) = %v, %d", a, e)
	}
}

func TestCmp(t *testing.T) {
	for _, a := range wides() {
		for _, b := range wides() {
			if got, want := wide.Cmp(a, b), exact(a).Cmp(exact(b)); got != want {
				t.Errorf("P1.3: Cmp(%v, %v) = %d, want %d", a, b, got, want)
			}
		}
	}
}

func TestQuotients(t *testing.T) {
	for _, a := range wides() {
		for _, b := range narrows() {
			if b == 0 {
				continue
			}
			got, e := wide.Floor(a, b)
			same(t, "P1.4: Floor", got, e, floorOf(exact(a), big.NewInt(b)))
			got, e = wide.Ceil(a, b)
			same(t, "P1.4: Ceil", got, e, ceilOf(exact(a), big.NewInt(b)))
		}
	}
}

func TestQuotientsByNothing(t *testing.T) {
	for _, a := range wides() {
		if q, e := wide.Floor(a, 0); q != (api.Wide{}) || e != api.ErrZero {
			t.Errorf("P1.4: Floor(%v, 0) = %v, %d", a, q, e)
		}
		if q, e := wide.Ceil(a, 0); q != (api.Wide{}) || e != api.ErrZero {
			t.Errorf("P1.4: Ceil(%v, 0) = %v, %d", a, q, e)
		}
	}
}

func TestQuotientsNamed(t *testing.T) {
	for _, c := range []struct {
		a           api.Wide
		b           int64
		floor, ceil api.Wide
		e           api.Errno
	}{
		{wide.Of(-7), 2, wide.Of(-4), wide.Of(-3), api.OK},
		{wide.Of(7), -2, wide.Of(-4), wide.Of(-3), api.OK},
		{wide.Of(7), 2, wide.Of(3), wide.Of(4), api.OK},
		{wide.Of(-7), -2, wide.Of(3), wide.Of(4), api.OK},
		{wide.Of(-8), 2, wide.Of(-4), wide.Of(-4), api.OK},
		{wide.Of(1), math.MinInt64, wide.Of(-1), wide.Of(0), api.OK},
		{wide.Of(0), -3, wide.Of(0), wide.Of(0), api.OK},
		{least, 1, least, least, api.OK},
		{least, math.MinInt64, api.Wide{Hi: 1}, api.Wide{Hi: 1}, api.OK},
		{most, -1, api.Wide{Hi: math.MinInt64, Lo: 1}, api.Wide{Hi: math.MinInt64, Lo: 1}, api.OK},
		{least, -1, api.Wide{}, api.Wide{}, api.ErrRange},
	} {
		if q, e := wide.Floor(c.a, c.b); q != c.floor || e != c.e {
			t.Errorf("P1.4: Floor(%v, %d) = %v, %d", c.a, c.b, q, e)
		}
		if q, e := wide.Ceil(c.a, c.b); q != c.ceil || e != c.e {
			t.Errorf("P1.4: Ceil(%v, %d) = %v, %d", c.a, c.b, q, e)
		}
	}
}

func TestFit(t *testing.T) {
	for _, n := range narrows() {
		if got, e := wide.Fit(wide.Of(n)); got != n || e != api.OK {
			t.Errorf("P1.5: Fit of %d = %d, %d", n, got, e)
		}
	}
	for _, a := range wides() {
		want, wantErr := int64(0), api.ErrRange
		if n := exact(a); n.IsInt64() {
			want, wantErr = n.Int64(), api.OK
		}
		if got, e := wide.Fit(a); got != want || e != wantErr {
			t.Errorf("P1.5: Fit(%v) = %d, %d; want %d, %d", a, got, e, want, wantErr)
		}
	}
	// The words just outside: 2^63 and -2^63 - 1.
	for _, a := range []api.Wide{{Lo: 1 << 63}, {Hi: -1, Lo: 1<<63 - 1}} {
		if got, e := wide.Fit(a); got != 0 || e != api.ErrRange {
			t.Errorf("P1.5: Fit(%v) = %d, %d", a, got, e)
		}
	}
}

func TestShowAndRead(t *testing.T) {
	for _, a := range wides() {
		text := wide.Show(a)
		if want := exact(a).String(); text != want {
			t.Errorf("P1.6: Show(%v) = %s, want %s", a, text, want)
		}
		if got, e := wide.Read(text); got != a || e != api.OK {
			t.Errorf("P1.6: Read(%q) = %v, %d", text, got, e)
		}
	}
}

func TestTextsNamed(t *testing.T) {
	for _, c := range []struct {
		a    api.Wide
		text string
	}{
		{api.Wide{}, "0"},
		{wide.Of(-10), "-10"},
		{least, "-170141183460469231731687303715884105728"},
		{most, "170141183460469231731687303715884105727"},
		{api.Wide{Hi: 1}, "18446744073709551616"},
		{api.Wide{Hi: -1}, "-18446744073709551616"},
		{wide.Mul(1e9, 1e10), "10000000000000000000"},
		{wide.Mul(1e18, -1e18), "-1000000000000000000000000000000000000"},
	} {
		if s := wide.Show(c.a); s != c.text {
			t.Errorf("P1.6: Show(%v) = %s, want %s", c.a, s, c.text)
		}
		if a, e := wide.Read(c.text); a != c.a || e != api.OK {
			t.Errorf("P1.6: Read(%q) = %v, %d", c.text, a, e)
		}
	}
}

func TestReadWrongTexts(t *testing.T) {
	noughts := strings.Repeat("0", 1000)
	for _, s := range []string{
		"", "-", "-0", "+1", "+0", "01", "00", "-01", "--1", "-+1", "- 1", "1-", " 1", "1 ", "\t1", "1\n",
		"1e3", "1.0", "0x1", "1_0", "a", "/", ":", "1/", "1:", "\x00", "1\x00", "\xff", "-\xff1", "\u0661", "\uff11", "\u22121",
		// ErrArg is named ahead of ErrRange.
		"1" + noughts + "x", "0" + noughts, "-0" + noughts, "x1" + noughts, "170141183460469231731687303715884105728 ",
	} {
		if a, e := wide.Read(s); a != (api.Wide{}) || e != api.ErrArg {
			t.Errorf("P1.6: Read(%q) = %v, %d", s, a, e)
		}
	}
}

func TestReadTooFar(t *testing.T) {
	for _, s := range []string{
		"170141183460469231731687303715884105728",
		"-170141183460469231731687303715884105729",
		"340282366920938463463374607431768211455", // 2^128 - 1
		"340282366920938463463374607431768211456", // 2^128, whose two lower words are nought
		"-340282366920938463463374607431768211456",
		"340282366920938463463374607431768211457",
		"999999999999999999999999999999999999999",
		"1000000000000000000000000000000000000000",
		"115792089237316195423570985008687907853269984665640564039457584007913129639936", // 2^256
		"1" + strings.Repeat("0", 1000),
		"-1" + strings.Repeat("0", 1000),
		strings.Repeat("9", 1<<20),
	} {
		if a, e := wide.Read(s); a != (api.Wide{}) || e != api.ErrRange {
			t.Errorf("P1.6: Read of %d bytes = %v, %d", len(s), a, e)
		}
	}
}

// TestReadAllShortTexts holds Read against the document's rule for every text of at most three of some bytes.
func TestReadAllShortTexts(t *testing.T) {
	texts := []string{""}
	for at := 0; at < len(texts); at++ {
		if len(texts[at]) < 3 {
			for _, next := range []string{"-", "+", "0", "1", "9", " ", "/", ":", "\xb1"} {
				texts = append(texts, texts[at]+next)
			}
		}
	}
	for _, s := range texts {
		n, isNumber := new(big.Int).SetString(s, 10)
		if !isNumber || n.String() != s {
			if a, e := wide.Read(s); a != (api.Wide{}) || e != api.ErrArg {
				t.Errorf("P1.6: Read(%q) = %v, %d", s, a, e)
			}
			continue
		}
		a, e := wide.Read(s)
		same(t, "P1.6: Read", a, e, n)
		if e == api.OK && wide.Show(a) != s {
			t.Errorf("P1.6: %q is read, but written %q", s, wide.Show(a))
		}
	}
}

// answers is what all calls tell of the given numbers, one entry a call.
func answers(a, b api.Wide, n, m int64) [11]any {
	type told struct {
		a any
		e api.Errno
	}
	sum, sumErr := wide.Add(a, b)
	neg, negErr := wide.Neg(a)
	scaled, scaledErr := wide.Scale(a, n)
	down, downErr := wide.Floor(a, n)
	up, upErr := wide.Ceil(a, n)
	fit, fitErr := wide.Fit(a)
	text := wide.Show(a)
	read, readErr := wide.Read(text + text)
	return [11]any{wide.Of(n), wide.Mul(n, m), told{sum, sumErr}, told{neg, negErr}, told{scaled, scaledErr}, wide.Cmp(a, b), told{down, downErr}, told{up, upErr}, told{fit, fitErr}, text, told{read, readErr}}
}

// TestAnswersHangOnArguments asks the same in another order and from several goroutines at a time.
func TestAnswersHangOnArguments(t *testing.T) {
	as, ns := wides(), narrows()
	ask := func(i int) [11]any {
		return answers(as[i], as[(i*31+7)%len(as)], ns[i%len(ns)], ns[(i*17+3)%len(ns)])
	}
	first := make([][11]any, len(as))
	for i := range as {
		first[i] = ask(i)
	}
	var group sync.WaitGroup
	for range 4 {
		group.Go(func() {
			for i := len(as) - 1; i >= 0; i-- {
				if ask(i) != first[i] {
					t.Errorf("P1.7: the answers about %v are not the same again", as[i])
				}
			}
		})
	}
	group.Wait()
}
