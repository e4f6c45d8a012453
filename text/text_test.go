package text_test

import (
	"slices"
	"strconv"
	"strings"
	"testing"

	"heddle/api"
	"heddle/net"
	"heddle/text"
)

// The chapter's texts, and one with a layer of each kind in the midst.
const (
	tinyText = "net tiny\ninput 1 1 3\ndense 2 ternary\nw +0-\nw +++\nbiases 5 -5\nend\n"
	edgeText = "net edge\ninput 2 2 1\nconv 1 3 3 step 1 1 pad 1 1 1 1 border 0 binary\nw + + + + + + + + +\nn 1 0 0 1\ndense 2 binary\nw ++++\nw +-+-\nbiases 0 0\nend\n"

	mixedText = `net Mixed_-9
input 4 3 2
conv 2 2 3 step 2 1 pad 1 0 2 3 border -1 ternary
w +0 -- 00 0- ++ +-
w -+ 00 -0 +0 0+ --
n 1 0 -3/2 4/2
n -7/1048576 2147483647 0/5 1/3
pool 2 1 step 1 3
dense 3 binary
w ++--+-+-
w +-+-++++
w -++-----
n 0 -2147483647/2 1 2147483647
n 6/4 1 1 1
n 1 1 1 1
dense 2 ternary
w 0-+
w 000
biases -2147483644 2147483644
end
`
)

func fr(num, den int64) api.Frac { return api.Frac{Num: num, Den: den} }

func norm(g, b, m, s api.Frac) api.Norm { return api.Norm{G: g, B: b, M: m, S: s} }

// step is the norm that makes sums from 0 on plus.
func step() api.Norm { return norm(fr(1, 1), fr(0, 1), fr(0, 1), fr(1, 1)) }

// win is a window: its size, its steps, its borders (Top Left Bottom Right).
func win(r, s, y, x, top, left, bottom, right int) api.Window {
	return api.Window{R: r, S: s, StepY: y, StepX: x, Top: top, Left: left, Bottom: bottom, Right: right}
}

func of(h, w, c int) api.Shape { return api.Shape{H: h, W: w, C: c} }

func tiny() api.Net {
	return api.Net{Name: "tiny", In: of(1, 1, 3), Layers: []api.Layer{
		{Kind: api.LDense, Weight: api.Ternary, K: 2, Weights: []int8{1, 0, -1, 1, 1, 1}, Biases: []int64{5, -5}},
	}}
}

func edge() api.Net {
	return api.Net{Name: "edge", In: of(2, 2, 1), Layers: []api.Layer{
		{Kind: api.LConv, Weight: api.Binary, K: 1, Win: win(3, 3, 1, 1, 1, 1, 1, 1), Weights: []int8{1, 1, 1, 1, 1, 1, 1, 1, 1}, Norms: []api.Norm{step()}},
		{Kind: api.LDense, Weight: api.Binary, K: 2, Weights: []int8{1, 1, 1, 1, 1, -1, 1, -1}, Biases: []int64{0, 0}},
	}}
}

// mixed is the network of mixedText; its shapes are (4, 3, 2), (3, 4, 2), (2, 2, 2), (1, 1, 3), (1, 1, 2).
func mixed() api.Net {
	one := fr(1, 1)
	return api.Net{Name: "Mixed_-9", In: of(4, 3, 2), Layers: []api.Layer{
		{Kind: api.LConv, Weight: api.Ternary, K: 2, Win: win(2, 3, 2, 1, 1, 0, 2, 3), Border: -1,
			Weights: []int8{1, 0, -1, -1, 0, 0, 0, -1, 1, 1, 1, -1, -1, 1, 0, 0, -1, 0, 1, 0, 0, 1, -1, -1},
			Norms:   []api.Norm{norm(one, fr(0, 1), fr(-3, 2), fr(4, 2)), norm(fr(-7, 1048576), fr(2147483647, 1), fr(0, 5), fr(1, 3))}},
		{Kind: api.LPool, Win: win(2, 1, 1, 3, 0, 0, 0, 0)},
		{Kind: api.LDense, Weight: api.Binary, K: 3,
			Weights: []int8{1, 1, -1, -1, 1, -1, 1, -1, 1, -1, 1, -1, 1, 1, 1, 1, -1, 1, 1, -1, -1, -1, -1, -1},
			Norms:   []api.Norm{norm(fr(0, 1), fr(-2147483647, 2), one, fr(2147483647, 1)), norm(fr(6, 4), one, one, one), norm(one, one, one, one)}},
		{Kind: api.LDense, Weight: api.Ternary, K: 2, Weights: []int8{0, -1, 1, 0, 0, 0}, Biases: []int64{-2147483644, 2147483644}},
	}}
}

// reads holds Parse against the network that it should answer.
func reads(t *testing.T, what, s string, want api.Net) {
	t.Helper()
	n, at, e := text.Parse(s)
	if e != api.OK || at != 0 || !net.Equal(n, want) {
		t.Errorf("P7.1: %s: %.200q: line %d, %d, %+v", what, s, at, e, n)
	}
}

// refused holds Parse against the error that it should answer.
func refused(t *testing.T, what, s string, at int, e api.Errno) {
	t.Helper()
	n, gotAt, got := text.Parse(s)
	if got != e || gotAt != at || !net.Equal(n, api.Net{}) {
		t.Errorf("P7.1: %s: %.300q: line %d, %d, want line %d, %d; the network %+v", what, s, gotAt, got, at, e, n)
	}
}

// prints holds Print against the text that it should answer.
func prints(t *testing.T, what string, n api.Net, want string) {
	t.Helper()
	if s, e := text.Print(n); e != api.OK || s != want {
		t.Errorf("P7.2: %s: %d, %.300q, want %.300q", what, e, s, want)
	}
}

// unprinted holds Print against the error that it should answer.
func unprinted(t *testing.T, what string, n api.Net, e api.Errno) {
	t.Helper()
	if s, got := text.Print(n); got != e || s != "" {
		t.Errorf("P7.2: %s: %d, want %d; the text %.60q", what, got, e, s)
	}
}

// swap is a text with one piece of it exchanged, which must stand in it once.
func swap(s, old, new string) string {
	if strings.Count(s, old) != 1 {
		panic(old + " stands not once in " + s)
	}
	return strings.Replace(s, old, new, 1)
}

// split is a text's lines, without their ends.
func split(s string) []string { return strings.Split(strings.TrimSuffix(s, "\n"), "\n") }

// join is lines as a text.
func join(lines ...string) string { return strings.Join(lines, "\n") + "\n" }

// with is the text with its line at (from 1) exchanged for others, which may be none.
func with(s string, at int, lines ...string) string {
	return join(slices.Replace(split(s), at-1, at, lines...)...)
}

func TestExamplesOfTheDocument(t *testing.T) {
	for s, n := range map[string]api.Net{tinyText: tiny(), edgeText: edge(), mixedText: mixed()} {
		reads(t, "as it stands", s, n)
		prints(t, "as it stands", n, s)
		reads(t, "with notes", "# a note\n"+strings.ReplaceAll(s, "\n", "# and one # more\n#\n"), n)
		reads(t, "with blank lines", "\n \n\t\r\n"+strings.ReplaceAll(s, "\n", "\n\n \n"), n)
		reads(t, "with tabs", strings.ReplaceAll(s, " ", "\t \t"), n)
	}
	reads(t, "w + 0 -", swap(tinyText, "w +0-", "w + 0 -"), tiny())
	for _, c := range []struct {
		s  string
		at int
		e  api.Errno
	}{
		{"", 1, api.ErrLine},
		{"net a;", 2, api.ErrLine},
		{"net a;input 1 1 3;end", 3, api.ErrLayers},
		{"net a!;input 1 1 3;end", 1, api.ErrName},
		{";net a;input 0 1 3;end", 3, api.ErrShape},
		{"net a;input 1 1;end", 2, api.ErrWord},
		{"net a;input 1 1 03;end", 2, api.ErrWord},
		{"net;", 1, api.ErrWord},
		{"input 1 1 1", 1, api.ErrLine},
		{"nets a", 1, api.ErrWord},
		{swap(tinyText, "w +0-", "w +0"), 5, api.ErrWord},
		{swap(tinyText, "w +++", "w +0"), 5, api.ErrWord},
		{swap(swap(tinyText, "w +0-", "w +0"), "w +++", "w +0"), 3, api.ErrWeight},
		{swap(tinyText, "w +0-", "w +0x"), 4, api.ErrWord},
		{swap(tinyText, "w +++", "w +++;w +++"), 6, api.ErrLine},
		{swap(tinyText, "w +++\n", ""), 5, api.ErrLine},
		{swap(tinyText, "biases 5 -5", "biases 5"), 3, api.ErrBias},
		{swap(tinyText, "biases 5 -5", "n 1 0 0 1;n 1 0 0 1"), 3, api.ErrBias},
		{swap(tinyText, "biases 5 -5", "n 1 0 0 1"), 7, api.ErrLine},
		{tinyText + "end;", 8, api.ErrLine},
		{swap(tinyText, "end\n", ""), 7, api.ErrLine},
		{swap(edgeText, "n 1 0 0 1", "n 1 0 0 2/1"), 5, api.ErrWord},
		{swap(edgeText, "n 1 0 0 1", "n 1 0 0 0"), 3, api.ErrNorm},
		{"net a;input 1 1 1;dense 0 binary;end", 3, api.ErrShape},
	} {
		refused(t, "an example", strings.ReplaceAll(c.s, ";", "\n"), c.at, c.e)
	}
}

func TestLongTexts(t *testing.T) {
	blank := func(size int) string { return strings.Repeat(" ", size) }
	for _, fillers := range []string{" ", "\n", "#", "\t", "x"} {
		refused(t, "one byte too many", strings.Repeat(fillers, api.MaxText+1), 0, api.ErrLong)
	}
	refused(t, "far too many", blank(1<<24), 0, api.ErrLong)
	refused(t, "blanks alone", blank(api.MaxText), 2, api.ErrLine)
	refused(t, "ends of lines alone", strings.Repeat("\n", api.MaxText), api.MaxText+1, api.ErrLine)
	refused(t, "a note alone", strings.Repeat("#", api.MaxText), 2, api.ErrLine)
	refused(t, "one word", strings.Repeat("x", api.MaxText), 1, api.ErrWord)
	for s, n := range map[string]api.Net{tinyText: tiny(), edgeText: edge()} {
		room := api.MaxText - len(s)
		reads(t, "blanks behind", s+blank(room), n)
		reads(t, "a note behind", s+strings.Repeat("#", room), n)
		reads(t, "empty lines behind", s+strings.Repeat("\n", room), n)
		reads(t, "blanks ahead", blank(room)+s, n)
		reads(t, "empty lines ahead", strings.Repeat("\n", room)+s, n)
		reads(t, "blanks in the midst", swap(s, "input", "input"+blank(room)), n)
		refused(t, "one blank more behind", s+blank(room+1), 0, api.ErrLong)
		refused(t, "one blank more ahead", blank(room+1)+s, 0, api.ErrLong)
		refused(t, "an empty line more", s+strings.Repeat("\n", room+1), 0, api.ErrLong)
		refused(t, "too long, and a word that may not be", "x"+blank(api.MaxText), 0, api.ErrLong)
		refused(t, "a fault in the last line", strings.Repeat("\n", room-1)+s+"x", room+len(split(s)), api.ErrWord)
	}
	refused(t, "a long name", "net "+strings.Repeat("a", api.MaxText-4), 2, api.ErrLine)
	refused(t, "a long number", "net a\ninput "+strings.Repeat("1", api.MaxText-100)+" 1 1\n", 2, api.ErrWord)
	refused(t, "a long row of noughts", "net a\ninput "+strings.Repeat("0", api.MaxText-100)+" 1 1\n", 2, api.ErrWord)
}

// TestManyThings: texts of about MaxText bytes with as much as can be of one thing.
func TestManyThings(t *testing.T) {
	head := "net a\ninput 1 1 1\n"
	many := func(s string) int { return (api.MaxText - 100) / len(s) }
	times := func(s string) string { return strings.Repeat(s, many(s)) }

	refused(t, "layers", head+times("dense 0 binary\n")+"end", many("dense 0 binary\n")+3, api.ErrLayers)
	refused(t, "pools", head+times("pool 1 1 step 1 1\n")+"end", many("pool 1 1 step 1 1\n")+3, api.ErrLayers)
	refused(t, "pools without an end", head+times("pool 1 1 step 1 1\n"), many("pool 1 1 step 1 1\n")+3, api.ErrLine)
	refused(t, "weights of one output", head+"dense 1 binary\nw "+times("+")+"\nbiases 1\nend", 3, api.ErrWeight)
	refused(t, "words of weights", head+"dense 1 binary\nw"+times(" +")+"\nbiases 1\nend", 3, api.ErrWeight)
	refused(t, "biases", head+"dense 1 binary\nw +\nbiases"+times(" 1")+"\nend", 3, api.ErrBias)
	refused(t, "words of one line", head+times("end "), 3, api.ErrWord)
	refused(t, "outputs that never end", head+"dense 9223372036854775807 binary\n"+times("w +\n"), many("w +\n")+4, api.ErrLine)
	refused(t, "outputs without weights", head+"dense 9223372036854775807 binary\n"+times("w\n"), many("w\n")+4, api.ErrLine)

	k := many("w\n") / 8
	long := head + "conv " + strconv.Itoa(k) + " 1 1 step 1 1 pad 0 0 0 0 border 0 binary\n" + strings.Repeat("w\n", k)
	refused(t, "outputs beyond MaxSide, too few norms", long+strings.Repeat("n 1 0 0 1\n", k-1), 3+k+k, api.ErrLine)
	refused(t, "outputs beyond MaxSide", long+strings.Repeat("n 1 0 0 1\n", k)+"dense 1 binary\nw +\nbiases 1\nend", 3, api.ErrShape)
}

// TestLines: where lines end, and what of them is looked at.
func TestLines(t *testing.T) {
	for s, n := range map[string]api.Net{tinyText: tiny(), edgeText: edge(), mixedText: mixed()} {
		reads(t, "the last end of a line missing", strings.TrimSuffix(s, "\n"), n)
		reads(t, "a blank behind the last end", s+" ", n)
		reads(t, "a note behind the last word", strings.TrimSuffix(s, "\n")+"#", n)
		reads(t, "a note behind the last end", s+"# end", n)
		reads(t, "bytes 13 ahead of the ends", strings.ReplaceAll(s, "\n", "\r\n"), n)
		reads(t, "bytes 13 behind the ends", strings.ReplaceAll(s, "\n", "\n\r"), n)
		reads(t, "notes with bytes of all kinds", strings.ReplaceAll(s, "\n", "#\x00\xff\v\f # é end x w + -\t\r\n"), n)
		reads(t, "notes of their own lines", strings.ReplaceAll(s, "\n", "\n#net a\n \t# 7\n"), n)
		for _, blank := range []string{" ", "\t", "\r", "  ", "\t\t", "\r\r", " \t\r \t\r"} {
			reads(t, "blanks between words", strings.ReplaceAll(s, " ", blank), n)
			reads(t, "blanks ahead of lines", blank+strings.ReplaceAll(s, "\n", "\n"+blank), n)
			reads(t, "blanks behind lines", strings.ReplaceAll(s, "\n", blank+"\n"), n)
			reads(t, "lines of blanks", blank+"\n"+strings.ReplaceAll(s, "\n", "\n"+blank+"\n"), n)
		}
	}
	// A line that is passed over is counted.
	for _, passed := range []string{"\n", " \n", "\t\r\n", "# net\n", " #\n", "#\n\n  # x\n"} {
		more := strings.Count(passed, "\n")
		for at := range split(tinyText) {
			lines := split(tinyText)
			lines[at] = passed + "nets"
			refused(t, "lines that are passed over", join(lines...), at+more+1, api.ErrWord)
		}
		refused(t, "only lines that are passed over", passed, more+1, api.ErrLine)
		refused(t, "the last one without its end", strings.TrimSuffix(passed, "\n")+"#", more+1, api.ErrLine)
		refused(t, "no end, and lines that are passed over", swap(tinyText, "end\n", passed), 7+more, api.ErrLine)
	}
	refused(t, "a text without an end of a line", "net a", 2, api.ErrLine)
	refused(t, "a blank behind the last end", "net a\n ", 3, api.ErrLine)
	refused(t, "a note cuts a word off", "net a#b\nend", 2, api.ErrLine)
	refused(t, "a note cuts all words off", "net #a\n", 1, api.ErrWord)
	refused(t, "a note cuts the kind", "ne#t a\n", 1, api.ErrWord)
	reads(t, "a note within a word", swap(tinyText, "net tiny", "net tiny#y"), tiny())
	reads(t, "a note within weights", swap(tinyText, "w +0-", "w +0-#+"), tiny())
	refused(t, "a byte 13 alone ends no line", strings.ReplaceAll(tinyText, "\n", "\r"), 1, api.ErrWord)
}

// TestBytesThatAreNoBlanks: all bytes but four are parts of words, whatever they mean elsewhere.
func TestBytesThatAreNoBlanks(t *testing.T) {
	for b := range 256 {
		s := string([]byte{byte(b)})
		if strings.Contains(" \t\r\n#", s) {
			continue
		}
		e := api.ErrWord
		if s == "w" || s == "n" { // these are kinds of lines
			e = api.ErrLine
		}
		refused(t, "a byte ahead of the text", s+tinyText, 1, api.ErrWord)
		refused(t, "a byte that is a line", with(tinyText, 3, s), 3, e)
		refused(t, "a byte behind the kind", swap(tinyText, "dense 2", "dense"+s+" 2"), 3, api.ErrWord)
		refused(t, "a byte for a blank", swap(tinyText, "input 1", "input"+s+"1"), 2, api.ErrWord)
		refused(t, "a byte behind the text", tinyText+s, 8, e)
		refused(t, "a byte more", swap(tinyText, "end", "end "+s), 7, api.ErrWord)
		refused(t, "a byte at a word", swap(tinyText, "ternary", "ternary"+s), 3, api.ErrWord)
	}
	for _, s := range []string{"\u00a0", "\u0085", "\u2003", "\u2028", "\ufeff", "é", "\xff\xfe", "\x00"} {
		refused(t, "runes ahead of the text", s+tinyText, 1, api.ErrWord)
		refused(t, "runes behind a word", swap(tinyText, "ternary", "ternary"+s), 3, api.ErrWord)
		refused(t, "runes in a name", swap(tinyText, "tiny", s+"tiny"), 1, api.ErrName)
		refused(t, "runes behind the text", tinyText+s, 8, api.ErrWord)
	}
}

// TestFields: what is read lies where it should, and all else is zero.
func TestFields(t *testing.T) {
	n, _, _ := text.Parse(mixedText)
	if n.Name != "Mixed_-9" || n.In != of(4, 3, 2) || len(n.Layers) != 4 {
		t.Fatalf("P7.1: %+v", n)
	}
	for i, l := range mixed().Layers {
		got := n.Layers[i]
		if got.Kind != l.Kind || got.Weight != l.Weight || got.K != l.K || got.Win != l.Win || got.Border != l.Border {
			t.Errorf("P7.1: layer %d: %+v", i, got)
		}
		if !slices.Equal(got.Weights, l.Weights) || !slices.Equal(got.Norms, l.Norms) || !slices.Equal(got.Biases, l.Biases) {
			t.Errorf("P7.1: layer %d: %v, %v, %v", i, got.Weights, got.Norms, got.Biases)
		}
	}
	s := "net a\ninput 90 80 7\nconv 1 10 9 step 8 7 pad 5 4 3 2 border 1 ternary\nw " + strings.Repeat("+-0", 210) + "\nn 1/2 -3/4 5/6 7/8\npool 3 2 step 5 4\ndense 1 binary\nw ++++++\nbiases 9\nend\n"
	n, at, e := text.Parse(s)
	if e != api.OK {
		t.Fatalf("P7.1: line %d, %d", at, e)
	}
	if n.In != of(90, 80, 7) || n.Layers[0].Win != win(10, 9, 8, 7, 5, 4, 3, 2) || n.Layers[0].Border != 1 || n.Layers[1].Win != win(3, 2, 5, 4, 0, 0, 0, 0) {
		t.Errorf("P7.1: %+v, %+v, %+v", n.In, n.Layers[0].Win, n.Layers[1].Win)
	}
	if n.Layers[0].Norms[0] != norm(fr(1, 2), fr(-3, 4), fr(5, 6), fr(7, 8)) {
		t.Errorf("P7.1: %+v", n.Layers[0].Norms)
	}
	for i, w := range n.Layers[0].Weights {
		if w != []int8{1, -1, 0}[i%3] {
			t.Errorf("P7.1: weight %d is %d", i, w)
		}
	}
}
