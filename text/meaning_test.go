package text_test

import (
	"fmt"
	"math/big"
	"regexp"
	"slices"
	"strings"
	"testing"

	"heddle/api"
	"heddle/net"
	"heddle/text"
)

// A second reading of the chapter: all lines are cut into words first, then gone through by the form of a network.

var (
	note   = regexp.MustCompile(`(?s)#.*`)
	digits = regexp.MustCompile(`^(0|-?[1-9][0-9]*)$`)
	parted = regexp.MustCompile(`^(0|-?[1-9][0-9]*)(/([2-9]|[1-9][0-9]+))?$`)
)

// row is a line that has words.
type row struct {
	at    int
	words []string
}

// fault is what ends a reading.
type fault struct {
	at int
	e  api.Errno
}

// reading is what is left of a text.
type reading struct {
	rows  []row
	lines int
	at    int
}

func cut(s string) *reading {
	lines := strings.SplitAfter(s, "\n")
	if lines[len(lines)-1] == "" {
		lines = lines[:len(lines)-1]
	}
	r := &reading{lines: len(lines)}
	for i, line := range lines {
		line = note.ReplaceAllString(strings.TrimSuffix(line, "\n"), "")
		words := strings.FieldsFunc(line, func(c rune) bool { return c == 32 || c == 9 || c == 13 })
		if len(words) > 0 {
			r.rows = append(r.rows, row{i + 1, words})
		}
	}
	return r
}

// want is the next line's words, if it is of one of some kinds, which may stand next.
func (r *reading) want(kinds ...string) []string {
	if len(r.rows) == 0 {
		panic(fault{r.lines + 1, api.ErrLine})
	}
	next := r.rows[0]
	r.rows, r.at = r.rows[1:], next.at
	r.fail(!slices.Contains([]string{"net", "input", "conv", "dense", "pool", "w", "n", "biases", "end"}, next.words[0]), api.ErrWord)
	r.fail(!slices.Contains(kinds, next.words[0]), api.ErrLine)
	return next.words
}

func (r *reading) fail(wrong bool, e api.Errno) {
	if wrong {
		panic(fault{r.at, e})
	}
}

// form holds words against a form: N stands for a number, whose worths are told.
func (r *reading) form(words []string, form string) []int {
	wanted := strings.Fields(form)
	r.fail(len(words) != len(wanted), api.ErrWord)
	var numbers []int
	for i, w := range wanted {
		if w == "N" {
			numbers = append(numbers, int(r.number(words[i])))
		} else {
			r.fail(!slices.Contains(strings.Split(w, "|"), words[i]), api.ErrWord)
		}
	}
	return numbers
}

func (r *reading) number(word string) int64 {
	r.fail(!digits.MatchString(word), api.ErrWord)
	v, _ := new(big.Int).SetString(word, 10)
	r.fail(!v.IsInt64(), api.ErrWord)
	return v.Int64()
}

func (r *reading) fraction(word string) api.Frac {
	r.fail(!parted.MatchString(word), api.ErrWord)
	num, den, two := strings.Cut(word, "/")
	f := fr(r.number(num), 1)
	if two {
		f.Den = r.number(den)
	}
	r.fail(f.Num > 1<<31-1 || f.Num < 1-1<<31 || f.Den > 1<<20, api.ErrWord)
	return f
}

func (r *reading) outputs(l *api.Layer) {
	first := 0
	for k := range max(l.K, 0) {
		row := strings.Join(r.want("w")[1:], "")
		if k == 0 {
			first = len(row)
		}
		r.fail(len(row) != first || strings.Trim(row, "+-0") != "", api.ErrWord)
		for _, c := range row {
			l.Weights = append(l.Weights, map[rune]int8{'+': 1, '-': -1, '0': 0}[c])
		}
	}
	for k := 0; k < l.K; k++ {
		kinds := []string{"n", "biases"}
		words := r.want(kinds[:2-min(k, 1)]...)
		if words[0] == "biases" {
			for _, word := range words[1:] {
				l.Biases = append(l.Biases, r.number(word))
			}
			return
		}
		r.fail(len(words) != 5, api.ErrWord)
		l.Norms = append(l.Norms, norm(r.fraction(words[1]), r.fraction(words[2]), r.fraction(words[3]), r.fraction(words[4])))
	}
}

// told is what a text should be read as. (Texts with a great K are not for it.)
func told(s string) (n api.Net, at int, e api.Errno) {
	if len(s) > 4194304 {
		return api.Net{}, 0, api.ErrLong
	}
	defer func() {
		if f, is := recover().(fault); is {
			n, at, e = api.Net{}, f.at, f.e
		}
	}()
	r := cut(s)
	words := r.want("net")
	netAt := r.at
	r.fail(len(words) != 2, api.ErrWord)
	n.Name = words[1]
	v := r.form(r.want("input"), "input N N N")
	n.In = of(v[0], v[1], v[2])
	inputAt := r.at
	var layers []int
	for {
		words = r.want("conv", "dense", "pool", "end")
		if words[0] == "end" {
			break
		}
		layers = append(layers, r.at)
		n.Layers = append(n.Layers, r.layer(words))
	}
	endAt := r.at
	r.form(words, "end")
	if len(r.rows) > 0 {
		r.want()
	}
	i, e := net.Check(n)
	switch {
	case e == api.OK:
		return n, 0, e
	case i >= 0:
		return api.Net{}, layers[i], e
	}
	return api.Net{}, map[api.Errno]int{api.ErrName: netAt, api.ErrShape: inputAt, api.ErrBig: inputAt, api.ErrLayers: endAt}[e], e
}

func (r *reading) layer(words []string) api.Layer {
	weight := map[string]int{"binary": 1, "ternary": 2}[words[len(words)-1]]
	switch words[0] {
	case "pool":
		v := r.form(words, "pool N N step N N")
		return api.Layer{Kind: api.LPool, Win: win(v[0], v[1], v[2], v[3], 0, 0, 0, 0)}
	case "dense":
		v := r.form(words, "dense N binary|ternary")
		l := api.Layer{Kind: api.LDense, Weight: weight, K: v[0]}
		r.outputs(&l)
		return l
	}
	v := r.form(words, "conv N N N step N N pad N N N N border N binary|ternary")
	l := api.Layer{Kind: api.LConv, Weight: weight, K: v[0], Win: win(v[1], v[2], v[3], v[4], v[5], v[6], v[7], v[8]), Border: v[9]}
	r.outputs(&l)
	return l
}

// against holds Parse against the second reading, and what it answers against Print.
func against(t *testing.T, s string) {
	t.Helper()
	want, at, e := told(s)
	n, gotAt, got := text.Parse(s)
	if got != e || gotAt != at || !net.Equal(n, want) {
		t.Errorf("P7.1: %.400q: line %d, %d, want line %d, %d\n%+v\n%+v", s, gotAt, got, at, e, n, want)
	}
	if got == api.OK {
		again(t, n)
	}
}

// again holds the text of a network that may be against the form, and reads it back.
func again(t *testing.T, n api.Net) {
	t.Helper()
	want := spelled(n)
	prints(t, "by its form", n, want)
	if back, at, e := text.Parse(want); e != api.OK || at != 0 || !net.Equal(back, n) {
		t.Errorf("P7.3: %.300q: line %d, %d, %+v", want, at, e, back)
	}
}

// spelled is the text of a network by the form, with as many rows of weights as its K.
func spelled(n api.Net) string {
	var out strings.Builder
	fmt.Fprintf(&out, "net %s\ninput %d %d %d\n", n.Name, n.In.H, n.In.W, n.In.C)
	for _, l := range n.Layers {
		spellLayer(&out, l)
	}
	return out.String() + "end\n"
}

func spellLayer(out *strings.Builder, l api.Layer) {
	w, kind, places := l.Win, []string{"?", "binary", "ternary"}[l.Weight], 1
	switch l.Kind {
	case api.LConv:
		fmt.Fprintf(out, "conv %d %d %d step %d %d pad %d %d %d %d border %d %s\n", l.K, w.R, w.S, w.StepY, w.StepX, w.Top, w.Left, w.Bottom, w.Right, l.Border, kind)
		places = w.R * w.S
	case api.LDense:
		fmt.Fprintf(out, "dense %d %s\n", l.K, kind)
	case api.LPool:
		fmt.Fprintf(out, "pool %d %d step %d %d\n", w.R, w.S, w.StepY, w.StepX)
	}
	for k := range l.K {
		fanIn := len(l.Weights) / l.K
		out.WriteString("w")
		for i, v := range l.Weights[k*fanIn : (k+1)*fanIn] {
			if i%(fanIn/places) == 0 {
				out.WriteString(" ")
			}
			out.WriteByte("-0+"[v+1])
		}
		out.WriteString("\n")
	}
	for _, n := range l.Norms {
		line := fmt.Sprintf("n %d/%d %d/%d %d/%d %d/%d ", n.G.Num, n.G.Den, n.B.Num, n.B.Den, n.M.Num, n.M.Den, n.S.Num, n.S.Den)
		out.WriteString(strings.TrimSuffix(strings.ReplaceAll(line, "/1 ", " "), " ") + "\n")
	}
	if len(l.Biases) > 0 {
		fmt.Fprintf(out, "biases %s\n", strings.Trim(fmt.Sprint(l.Biases), "[]"))
	}
}

// dice gives numbers that look like any, the same ones in every run of the tests.
type dice uint64

// roll is a number from least to most.
func (d *dice) roll(least, most int) int {
	*d = *d*6364136223846793005 + 1442695040888963407
	return least + int(uint64(*d)>>33)%(most-least+1)
}

func one[T any](d *dice, list []T) T { return list[d.roll(0, len(list)-1)] }

// TestAnyTexts breaks good texts in any places: bytes, words, lines.
func TestAnyTexts(t *testing.T) {
	d := dice(11)
	bytes := []string{"+", "-", "0", "1", "2", "9", "/", " ", "\t", "\r", "\n", "#", "x", "w", "n", "\x00", "\xff", "\n\n", "é", " 0", "\n#"}
	words := []string{"0", "1", "2", "3", "-1", "-0", "01", "+1", "16", "4097", "9223372036854775807", "9223372036854775808", "1/2", "2/1", "0/3", "-5/7", "1/1048577", "+", "-", "++", "+0-", "x", "net", "input", "conv", "dense", "pool", "w", "n", "biases", "end", "step", "pad", "border", "binary", "ternary", "#", ""}
	for range 30000 {
		s := one(&d, []string{tinyText, edgeText, mixedText})
		for range d.roll(1, 3) {
			switch d.roll(0, 6) {
			case 0: // a byte for another, or more, or fewer
				at := d.roll(0, len(s)-1)
				s = s[:at] + one(&d, bytes) + s[min(len(s), at+d.roll(0, 2)):]
			case 1, 2: // words
				lines := split(s)
				at := d.roll(0, len(lines)-1)
				parts := strings.Split(lines[at], " ")
				spot := d.roll(0, len(parts)-1)
				lines[at] = strings.Join(slices.Replace(parts, spot, spot+d.roll(0, 1), one(&d, words)), " ")
				s = join(lines...)
			case 3: // a line less, or twice
				lines := split(s)
				at := d.roll(0, len(lines)-1)
				s = join(slices.Replace(lines, at, at+1, slices.Repeat(lines[at:at+1], 2*d.roll(0, 1))...)...)
			case 4: // a line of another text
				lines := split(s)
				at := d.roll(0, len(lines)-1)
				s = join(slices.Insert(lines, at, one(&d, split(mixedText)))...)
			case 5: // two lines exchanged
				lines := split(s)
				a, b := d.roll(0, len(lines)-1), d.roll(0, len(lines)-1)
				lines[a], lines[b] = lines[b], lines[a]
				s = join(lines...)
			case 6: // the end cut off
				if d.roll(0, 9) == 0 {
					s = s[:d.roll(1, len(s))]
				}
			}
		}
		if strings.Contains(s, "e 9223372036854775807") || strings.Contains(s, "v 9223372036854775807") {
			continue // a K that is too great to be counted
		}
		against(t, s)
	}
	for _, s := range []string{tinyText, edgeText, mixedText} {
		for at := range len(s) {
			against(t, s[:at])
			against(t, s[at:])
			against(t, s[:at]+s[at+1:])
			for _, b := range bytes {
				against(t, s[:at]+b+s[at:])
				against(t, s[:at]+b+s[at+1:])
			}
		}
	}
}

// frac is a fraction that may be.
func (d *dice) frac(least int64) api.Frac {
	return fr(max(least, one(d, []int64{0, 1, -1, 7, -12, 2147483647, -2147483647, int64(d.roll(-99, 99))})), one(d, []int64{1, 1, 2, 1048576, int64(d.roll(1, 99))}))
}

// layer is one that may stand behind what comes in, and its output's shape.
func (d *dice) layer(in api.Shape, begins bool) (api.Layer, api.Shape) {
	l := api.Layer{Kind: d.roll(1, 3), Weight: d.roll(1, 2), K: d.roll(1, 4)}
	if begins && l.Kind == api.LPool {
		l.Kind = api.LConv
	}
	if l.Kind == api.LPool {
		l.Weight, l.K = 0, 0
		l.Win = win(d.roll(1, min(3, in.H)), d.roll(1, min(3, in.W)), d.roll(1, 15), d.roll(1, 15), 0, 0, 0, 0)
		return l, of((in.H-l.Win.R)/l.Win.StepY+1, (in.W-l.Win.S)/l.Win.StepX+1, in.C)
	}
	fanIn, out := in.H*in.W*in.C, of(1, 1, l.K)
	if l.Kind == api.LConv {
		w := win(d.roll(1, min(4, in.H)), d.roll(1, min(4, in.W)), d.roll(1, 3), d.roll(1, 3), d.roll(0, 2), d.roll(0, 2), d.roll(0, 2), d.roll(0, 2))
		if w.Top+w.Left+w.Bottom+w.Right > 0 {
			l.Border = d.roll(-1, 1)
		}
		l.Win, fanIn, out = w, w.R*w.S*in.C, of((in.H+w.Top+w.Bottom-w.R)/w.StepY+1, (in.W+w.Left+w.Right-w.S)/w.StepX+1, l.K)
	}
	for range l.K * fanIn {
		l.Weights = append(l.Weights, one(d, [][]int8{api.Binary: {1, -1}, api.Ternary: {1, -1, 0}}[l.Weight]))
	}
	for range l.K {
		l.Norms = append(l.Norms, norm(d.frac(-1<<31), d.frac(-1<<31), d.frac(-1<<31), d.frac(1)))
	}
	return l, out
}

// network is one of one to six layers.
func (d *dice) network() api.Net {
	in := of(d.roll(1, 6), d.roll(1, 6), d.roll(1, 4))
	n := api.Net{Name: one(d, []string{"a", "net", "end", "-", "_0", strings.Repeat("Zz9-", 8)}), In: in}
	for i := range d.roll(0, 5) {
		var l api.Layer
		l, in = d.layer(in, i == 0)
		n.Layers = append(n.Layers, l)
	}
	for {
		l, _ := d.layer(in, true)
		if l.Kind != api.LDense {
			continue
		}
		l.Norms = nil
		for range l.K {
			l.Biases = append(l.Biases, int64(one(d, []int{0, 1, -1, 2147000000, -2147000000, d.roll(-999, 999)})))
		}
		n.Layers = append(n.Layers, l)
		return n
	}
}

// loose is a text with the same words and lines, but other blanks, notes, empty lines, and words of weights.
func (d *dice) loose(s string) string {
	out := ""
	for _, line := range split(s) {
		for d.roll(0, 3) == 0 {
			out += one(d, []string{"\n", " \t\n", "# note\n", "\r\n", "\t# w +++ #\n"})
		}
		words := strings.Fields(line)
		if words[0] == "w" {
			row := strings.Join(words[1:], "")
			for words = words[:1]; row != ""; {
				size := d.roll(1, min(5, len(row)))
				words, row = append(words, row[:size]), row[size:]
			}
		}
		out += one(d, []string{"", "", " ", "\t "})
		for _, word := range words {
			out += word + one(d, []string{" ", "  ", "\t", "\r", " \t \r"})
		}
		out += one(d, []string{"\n", "\r\n", "# and a note\n", "#\n"})
	}
	return out + one(d, []string{"", "\n", "#", " ", "# end"})
}

// TestThereAndBack: networks of all sorts, printed, read, and read from looser texts.
func TestThereAndBack(t *testing.T) {
	d := dice(5)
	for range 3000 {
		n := d.network()
		if at, e := net.Check(n); e != api.OK {
			t.Fatalf("the test's own network may not be: %d, %d, %+v", at, e, n)
		}
		again(t, n)
		s := d.loose(spelled(n))
		reads(t, "a looser text", s, n)
		against(t, s)
	}
	for _, n := range []api.Net{tiny(), edge(), mixed()} {
		again(t, n)
	}
}
