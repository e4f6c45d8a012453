package text_test

import (
	"slices"
	"strconv"
	"strings"
	"testing"

	"heddle/api"
	"heddle/text"
)

// forms are a line of each kind, as it should be, but for the number of an output's weights.
func forms() map[string]string {
	return map[string]string{
		"net":    "net a",
		"input":  "input 1 1 1",
		"conv":   "conv 2 1 1 step 1 1 pad 0 0 0 0 border 0 binary",
		"dense":  "dense 2 binary",
		"pool":   "pool 1 1 step 1 1",
		"w":      "w +",
		"n":      "n 1 0 0 1",
		"biases": "biases 1 2",
		"end":    "end",
	}
}

// spots are beginnings of texts, and the kinds of lines that are wanted behind each.
func spots() map[string][]string {
	head := "net a\ninput 1 1 1\n"
	layers := []string{"conv", "dense", "pool", "end"}
	spots := map[string][]string{
		"":                      {"net"},
		"# nothing\n\n":         {"net"},
		"net a\n":               {"input"},
		head:                    layers,
		head + "end\n":          nil,
		tinyText:                nil,
		edgeText:                nil,
		tinyText + "# a note\n": nil,
	}
	for _, first := range []string{"pool 1 1 step 1 1\n", "pool 0 -1 step 7 99\n", "dense 0 binary\n", "dense -1 ternary\n", "conv 0 1 1 step 1 1 pad 0 0 0 0 border 0 binary\n", "conv -9223372036854775808 1 1 step 1 1 pad 0 0 0 0 border 0 ternary\n"} {
		spots[head+first] = layers
		spots[head+first+first] = layers
	}
	for _, first := range []string{"conv # 1 1 step 1 1 pad 0 0 0 0 border 0 binary\n", "dense # ternary\n"} {
		for k := 1; k <= 4; k++ {
			at := head + strings.Replace(first, "#", strconv.Itoa(k), 1)
			for range k {
				spots[at] = []string{"w"}
				at += "w +\n"
			}
			spots[at] = []string{"n", "biases"}
			for _, biases := range []string{"biases\n", "biases 1\n", "biases 1 2 3 4 5 6\n"} {
				spots[at+biases] = layers
			}
			for range k - 1 {
				at += "n 1 0 0 1\n"
				spots[at] = []string{"n"}
			}
			spots[at+"n 1 0 0 1\n"] = layers
		}
	}
	return spots
}

// TestKindsOfLines lays a line of each kind at each spot.
func TestKindsOfLines(t *testing.T) {
	for begun, wanted := range spots() {
		at := strings.Count(begun, "\n") + 1
		for kind, line := range forms() {
			for _, rest := range []string{"", " x", " 1 1 1 1 1 1 1 1 1 1"} {
				s := begun + line + rest + "\n"
				switch {
				case !slices.Contains(wanted, kind):
					refused(t, "a line that is not wanted", s, at, api.ErrLine)
				case rest == "" || kind == "biases" && rest != " x":
					if _, got, e := text.Parse(s + "x\n"); got != at+1 || e != api.ErrWord {
						t.Errorf("P7.1: a line that is wanted: %q: line %d, %d", s, got, e)
					}
				default:
					refused(t, "words that are too many", s, at, api.ErrWord)
				}
			}
		}
		for _, kind := range []string{"x", "Net", "NET", "nets", "ne", "input:", "Conv", "con", "convs", "denses", "pools", "W", "ww", "w+", "N", "nn", "bias", "biases1", "ends", "END", "0", "+", "-", "\x00", "é"} {
			refused(t, "no kind", begun+kind+"\n", at, api.ErrWord)
			refused(t, "no kind, with words", begun+kind+" a 1 end\n", at, api.ErrWord)
		}
	}
}

// TestTextsThatEnd: at each spot where a line is wanted.
func TestTextsThatEnd(t *testing.T) {
	for begun, wanted := range spots() {
		if wanted == nil {
			continue
		}
		count := strings.Count(begun, "\n")
		refused(t, "a text that ends", begun, count+1, api.ErrLine)
		refused(t, "a text that ends without its last byte", begun+"#", count+2, api.ErrLine)
		refused(t, "a text that ends with lines that are passed over", begun+"\n # end\n\t", count+4, api.ErrLine)
	}
	for _, s := range []string{tinyText, edgeText, mixedText} {
		lines := split(s)
		for i := range lines {
			refused(t, "the first lines alone", strings.Join(lines[:i], "\n"), i+1, api.ErrLine)
		}
	}
}

// bad are words that are no numbers.
var bad = []string{"+1", "01", "-01", "00", "-0", "+0", "1.0", "1e3", "0x1", "1_0", "-", "+", "--1", "1-", "x", "1x", "x1", "step", "½", "१", "9223372036854775808", "-9223372036854775809", "99999999999999999999", "18446744073709551617", "1,", "1/1", "\x00", "1\x00"}

// TestWordsOfEachForm: a word that is missing, one too many, another one, at each place of each form.
func TestWordsOfEachForm(t *testing.T) {
	for _, s := range []string{tinyText, edgeText, mixedText} {
		for i, line := range split(s) {
			words := strings.Fields(line)
			kind, at := words[0], i+1
			for j := range words {
				if j == 0 || kind == "w" || kind == "biases" {
					continue
				}
				less := slices.Delete(slices.Clone(words), j, j+1)
				refused(t, "a word is missing", with(s, at, strings.Join(less, " ")), at, api.ErrWord)
				for _, word := range []string{words[j], "1", "x", "step", "binary", "0"} {
					more := slices.Insert(slices.Clone(words), j, word)
					refused(t, "a word too many", with(s, at, strings.Join(more, " ")), at, api.ErrWord)
				}
				other := slices.Clone(words)
				for _, word := range append([]string{strings.ToUpper(words[j]) + "X", words[j] + "/", "/" + words[j]}, bad...) {
					other[j] = word
					if kind == "net" || word == words[j] {
						continue
					}
					refused(t, "another word", with(s, at, strings.Join(other, " ")), at, api.ErrWord)
				}
			}
			if kind != "w" && kind != "biases" {
				refused(t, "the kind alone, or a word behind the last", with(s, at, pick(len(words) == 1, kind+" x", kind)), at, api.ErrWord)
				refused(t, "a word behind the last", with(s, at, line+" "+words[len(words)-1]), at, api.ErrWord)
			}
			refused(t, "all words twice", with(s, at, line+" "+line), at, api.ErrWord)
		}
	}
}

func pick(holds bool, a, b string) string {
	if holds {
		return a
	}
	return b
}

// TestMarks: the words that stand in a form as they are.
func TestMarks(t *testing.T) {
	for i, words := range map[int][]string{3: {"step", "pad", "border", "ternary"}, 8: {"step"}, 9: {"binary"}} {
		line := split(mixedText)[i-1]
		for _, word := range words {
			for _, other := range []string{"", "x", "Step", "steps", "pad", "step", "border", "binary1", "Binary", "TERNARY", "bin", "-", "2", "1", strings.ToUpper(word), word + "s", word[1:], word[:len(word)-1]} {
				if other == word {
					continue
				}
				refused(t, "another mark", with(mixedText, i, swap(line, word, other)), i, api.ErrWord)
			}
		}
	}
	n := mixed()
	n.Layers[2].Weight = api.Ternary
	reads(t, "ternary for binary", with(mixedText, 9, "dense 3 ternary"), n)
	n = edge()
	n.Layers[0].Weight = api.Ternary
	reads(t, "ternary for binary", swap(edgeText, "border 0 binary", "border 0 ternary"), n)
	n.Layers[0].Weight = api.Binary
	n.Layers[1].Weight = api.Ternary
	reads(t, "ternary for binary", swap(edgeText, "dense 2 binary", "dense 2 ternary"), n)
	refused(t, "binary for ternary", swap(tinyText, "ternary", "binary"), 3, api.ErrWeight)
	refused(t, "pad ahead of step", swap(edgeText, "step 1 1 pad 1 1 1 1", "pad 1 1 1 1 step 1 1"), 3, api.ErrWord)
	refused(t, "a pool with pad", swap(mixedText, "pool 2 1 step 1 3", "pool 2 1 step 1 3 pad 0 0 0 0"), 8, api.ErrWord)
	refused(t, "a dense layer with a window", swap(tinyText, "dense 2 ternary", "dense 2 1 1 step 1 1 pad 0 0 0 0 border 0 ternary"), 3, api.ErrWord)
	refused(t, "a convolution without pad", swap(edgeText, " pad 1 1 1 1", ""), 3, api.ErrWord)
	refused(t, "a convolution without border", swap(edgeText, " border 0", ""), 3, api.ErrWord)
}

// TestNumbers: at each place of a number, at both ends of an int64, and one beyond.
func TestNumbers(t *testing.T) {
	good := []string{"-9223372036854775808", "-9223372036854775807", "-4294967296", "4294967297", "9223372036854775806", "9223372036854775807"}
	for i, line := range split(mixedText) {
		words := strings.Fields(line)
		at := i + 1
		for j, word := range words {
			if _, err := strconv.Atoi(word); err != nil || words[0] == "w" || words[0] == "n" {
				continue
			}
			for _, v := range good {
				other := slices.Clone(words)
				other[j] = v
				// What is read may be refused, but later, and not as a word. (A great K wants more lines than there are.)
				_, got, e := text.Parse(with(mixedText, at, strings.Join(other, " ")))
				if e == api.OK || e == api.ErrWord || e == api.ErrLine && got <= at {
					t.Errorf("P7.1: line %d with %s for word %d: line %d, %d", at, v, j, got, e)
				}
			}
			for _, v := range bad {
				other := slices.Clone(words)
				other[j] = v
				refused(t, "no number", with(mixedText, at, strings.Join(other, " ")), at, api.ErrWord)
			}
		}
	}
	for s, e := range map[string]api.Errno{
		"9223372036854775807":  api.ErrReach,
		"-9223372036854775808": api.ErrReach,
		"9223372036854775808":  api.ErrWord,
		"-9223372036854775809": api.ErrWord,
		"4294967301":           api.ErrReach,
		"18446744073709551621": api.ErrWord,
	} {
		at := 3
		if e == api.ErrWord {
			at = 6
		}
		refused(t, "a bias", swap(tinyText, "biases 5", "biases "+s), at, e)
	}
	for _, v := range []int64{0, 1, -1, 10, -10, 100, 2147483647 - 384, -2147483647 + 384} {
		n := tiny()
		n.Layers[0].Biases[1] = v
		reads(t, "a bias", swap(tinyText, "5 -5", "5 "+strconv.FormatInt(v, 10)), n)
	}
}

// TestFractions: what stands in a norm is what frac.Show writes.
func TestFractions(t *testing.T) {
	at := func(j int, word string) string {
		words := []string{"n", "1", "1", "1", "1"}
		words[j] = word
		return with(edgeText, 5, strings.Join(words, " "))
	}
	for j := 1; j <= 4; j++ {
		for word, f := range map[string]api.Frac{
			"3": fr(3, 1), "3/2": fr(3, 2), "4/2": fr(4, 2), "2147483647": fr(2147483647, 1), "2147483647/1048576": fr(2147483647, 1048576), "1/1048576": fr(1, 1048576), "10/10": fr(10, 10),
			"-7": fr(-7, 1), "0/5": fr(0, 5), "0": fr(0, 1), "-2147483647/1048575": fr(-2147483647, 1048575), "-2147483647": fr(-2147483647, 1),
		} {
			n := edge()
			fs := []*api.Frac{&n.Layers[0].Norms[0].G, &n.Layers[0].Norms[0].B, &n.Layers[0].Norms[0].M, &n.Layers[0].Norms[0].S}
			for _, f := range fs {
				*f = fr(1, 1)
			}
			*fs[j-1] = f
			if j == 4 && f.Num < 1 {
				refused(t, "S below 1", at(j, word), 3, api.ErrNorm)
				continue
			}
			reads(t, "a fraction", at(j, word), n)
		}
		for _, word := range []string{"2/1", "+3", "-0", "03", "3/02", "3/0", "3/-2", "3/", "/2", "2147483648", "-2147483648", "1/1048577", "1/2/3", "x", "1.5", "0/0", "-/2", "3/+2", "9223372036854775808", "1\x00"} {
			refused(t, "no fraction", at(j, word), 5, api.ErrWord)
		}
	}
	refused(t, "a fraction in two words", with(edgeText, 5, "n 1 0 0 1 / 2"), 5, api.ErrWord)
	refused(t, "three fractions", with(edgeText, 5, "n 1 0 0"), 5, api.ErrWord)
	refused(t, "five fractions", with(edgeText, 5, "n 1 0 0 1 1"), 5, api.ErrWord)
	refused(t, "none", with(edgeText, 5, "n"), 5, api.ErrWord)
}

func TestNames(t *testing.T) {
	for _, name := range []string{"a", "Z", "9", "_", "-", "net", "input", "end", "w", "0", "-5", "+", strings.Repeat("q", 32), strings.Repeat("q", 33), "a!", "a.b", "é", "\x00", "\xff", "a/b", "\v", "ab\fcd"} {
		n := tiny()
		n.Name = name
		fits := len(name) <= 32 && strings.Trim(name, "abcdefghijklmnopqrstuvwxyzABCDEFGHIJKLMNOPQRSTUVWXYZ0123456789_-") == ""
		s := swap(tinyText, "net tiny", "net "+name)
		if fits {
			reads(t, "a name", s, n)
		} else {
			refused(t, "a name", s, 1, api.ErrName)
			refused(t, "a name, behind an empty line", "\n"+s, 2, api.ErrName)
		}
	}
	refused(t, "two names", swap(tinyText, "net tiny", "net tiny tiny"), 1, api.ErrWord)
	refused(t, "no name", swap(tinyText, "net tiny", "net"), 1, api.ErrWord)
}

// TestFirstFault: of two faults the one in the line ahead is told; of one line in the order of the document.
func TestFirstFault(t *testing.T) {
	lines := split(mixedText)
	breaks := func(i int) []string {
		kind := strings.Fields(lines[i])[0]
		form := lines[i] + " /"
		return []string{"nets 1", form, pick(kind == "net", "input", "net")}
	}
	for i := range lines {
		for j := range lines {
			for a, x := range breaks(i) {
				for b, y := range breaks(j) {
					if i == j && a != b {
						continue
					}
					s := with(with(mixedText, i+1, x), j+1, y)
					first, which := i, a
					if j < i {
						first, which = j, b
					}
					refused(t, "two faults", s, first+1, []api.Errno{api.ErrWord, api.ErrWord, api.ErrLine}[which])
				}
			}
		}
		// All that stands in the lines is asked ahead of the network's faults.
		faulty := with(mixedText, 2, "input 0 0 0")
		faulty = with(faulty, 1, "net !")
		if i > 1 {
			refused(t, "a line's fault ahead of the network's", with(faulty, i+1, "x"), i+1, api.ErrWord)
			refused(t, "a line's fault ahead of the network's", with(faulty, i+1, "net a"), i+1, api.ErrLine)
			refused(t, "a text's end ahead of the network's faults", join(split(faulty)[:i]...), i+1, api.ErrLine)
		}
	}
	refused(t, "a kind that is none and not wanted", "x", 1, api.ErrWord)
	refused(t, "not wanted, and in a wrong form", "input x", 1, api.ErrLine)
	refused(t, "not wanted, and in a wrong form, behind the end", tinyText+"w x", 8, api.ErrLine)
	refused(t, "a wrong kind behind the end", tinyText+"x\nend", 8, api.ErrWord)
	refused(t, "a line behind the end, and a fault of the network", "net !\ninput 0 0 0\nend\nend", 4, api.ErrLine)
	refused(t, "a form ahead of the text's end", "net a b", 1, api.ErrWord)
}

// TestWeights: which bytes are weights, and how they may be divided.
func TestWeights(t *testing.T) {
	for b := range 256 {
		c := byte(b)
		if strings.IndexByte("+-0 \t\r\n#", c) >= 0 {
			continue
		}
		for _, word := range []string{"w " + string([]byte{c}) + "0-", "w +" + string([]byte{c}) + "-", "w +0" + string([]byte{c}), "w +0-" + string([]byte{c}), "w +0- " + string([]byte{c}), "w " + string([]byte{c})} {
			refused(t, "no weight", swap(tinyText, "w +0-", word), 4, api.ErrWord)
		}
		refused(t, "no weight in another row", swap(tinyText, "w +++", "w ++"+string([]byte{c})), 5, api.ErrWord)
	}
	for _, word := range []string{"w +1", "w 1 0 -1", "w +0−", "w ＋0-", "w +0é"} {
		refused(t, "no weights", swap(tinyText, "w +0-", word), 4, api.ErrWord)
	}
	for _, word := range []string{"w + 0 -", "w +0 -", "w + 0-", "w  +\t0\r-", "w +0-#", "w +0- # +", "\tw +0-"} {
		reads(t, "weights in words", swap(tinyText, "w +0-", word), tiny())
	}
	for _, word := range []string{"w +++++++++", "w +++ +++ +++", "w +++++++ + +", "w + ++ +++ + ++"} {
		reads(t, "weights of a convolution in words", with(edgeText, 4, word), edge())
	}
	reads(t, "weights of a row divided otherwise than the first", swap(tinyText, "w +++", "w + + +"), tiny())
	refused(t, "a kind that is not divided from its weights", swap(tinyText, "w +0-", "w+0-"), 4, api.ErrWord)
}

// TestRowsOfWeights: as many in each row as in the first of the layer, however many there should be.
func TestRowsOfWeights(t *testing.T) {
	rowed := func(rows ...int) string {
		lines := []string{"net a", "input 1 1 3", "dense " + strconv.Itoa(len(rows)) + " binary"}
		for _, r := range rows {
			lines = append(lines, "w "+strings.Repeat("+", r))
		}
		return join(append(lines, "biases"+strings.Repeat(" 1", len(rows)), "end")...)
	}
	for first := range 7 {
		for second := range 7 {
			for third := range 7 {
				s := rowed(first, second, third)
				switch {
				case second != first:
					refused(t, "the second row", s, 5, api.ErrWord)
				case third != first:
					refused(t, "the third row", s, 6, api.ErrWord)
				case first != 3:
					refused(t, "all rows", s, 3, api.ErrWeight)
				default:
					if _, at, e := text.Parse(s); e != api.OK || at != 0 {
						t.Errorf("P7.1: %q: line %d, %d", s, at, e)
					}
				}
			}
		}
	}
	// As many in all as there should be, but not in each row; and rows of one layer are not held against those of another.
	refused(t, "four and two", rowed(4, 2), 5, api.ErrWord)
	refused(t, "two and four", rowed(2, 4), 5, api.ErrWord)
	refused(t, "none and six", rowed(0, 6), 5, api.ErrWord)
	refused(t, "six and none", rowed(6, 0), 5, api.ErrWord)
	refused(t, "one row of none", rowed(0), 3, api.ErrWeight)
	reads(t, "layers with rows of other lengths", edgeText, edge())
	refused(t, "a row without a word, alone", swap(tinyText, "w +++", "w"), 5, api.ErrWord)
	refused(t, "rows without words", swap(swap(tinyText, "w +++", "w"), "w +0-", "w #"), 3, api.ErrWeight)
}

// TestOutputs: how many lines each K wants.
func TestOutputs(t *testing.T) {
	head := "net a\ninput 1 1 1\n"
	lasting := "dense 1 binary\nw +\nbiases 1\nend\n"
	for _, first := range []string{"dense # binary\n", "conv # 1 1 step 1 1 pad 0 0 0 0 border 0 binary\n"} {
		begun := func(k string) string { return head + strings.Replace(first, "#", k, 1) }
		for _, k := range []string{"0", "-1", "-2", "-4096", "-9223372036854775808"} {
			refused(t, "no outputs", begun(k)+lasting, 3, api.ErrShape)
			refused(t, "no outputs, with weights", begun(k)+"w +\n"+lasting, 4, api.ErrLine)
			refused(t, "no outputs, with norms", begun(k)+"n 1 0 0 1\n"+lasting, 4, api.ErrLine)
			refused(t, "no outputs, with biases", begun(k)+"biases\n"+lasting, 4, api.ErrLine)
		}
		for k := 1; k <= 5; k++ {
			one := "w +\n"
			rule := "n 1 0 0 1\n"
			all := begun(strconv.Itoa(k)) + strings.Repeat(one, k)
			behind := "dense 1 binary\nw " + strings.Repeat("+", k) + "\nbiases 1\nend\n"
			if _, at, e := text.Parse(all + strings.Repeat(rule, k) + behind); e != api.OK || at != 0 {
				t.Errorf("P7.1: %d outputs: line %d, %d", k, at, e)
			}
			refused(t, "a row too many", all+one+strings.Repeat(rule, k)+behind, 4+k, api.ErrLine)
			refused(t, "a row too few", begun(strconv.Itoa(k))+strings.Repeat(one, k-1)+strings.Repeat(rule, k)+behind, 4+k-1, api.ErrLine)
			refused(t, "no rules", all+behind, 4+k, api.ErrLine)
			refused(t, "a norm too many", all+strings.Repeat(rule, k+1)+behind, 4+k+k, api.ErrLine)
			refused(t, "a norm too few", all+strings.Repeat(rule, k-1)+behind, 4+k+k-1, api.ErrLine)
			refused(t, "biases for norms", all+"biases 1\n"+behind, 3, api.ErrNorm)
			refused(t, "no biases for norms", all+"biases\n"+behind, 3, api.ErrNorm)
			refused(t, "norms and biases", all+strings.Repeat(rule, k)+"biases 1\n"+behind, 4+k+k, api.ErrLine)
			refused(t, "biases and norms", all+"biases 1\n"+rule+behind, 4+k+1, api.ErrLine)
			refused(t, "biases and biases", all+"biases 1\nbiases 1\n"+behind, 4+k+1, api.ErrLine)
			refused(t, "a row behind the rules", all+strings.Repeat(rule, k)+one+behind, 4+k+k, api.ErrLine)
			if k > 1 {
				refused(t, "biases behind a norm", all+rule+"biases 1\n"+behind, 4+k+1, api.ErrLine)
				refused(t, "a layer behind a norm", all+rule+behind, 4+k+1, api.ErrLine)
				refused(t, "a row behind a norm", all+rule+one+behind, 4+k+1, api.ErrLine)
			}
		}
	}
	for _, biases := range []string{"", " 5", " 5 -5 5", " 1 2 3 4 5 6 7"} {
		refused(t, "more or fewer biases", swap(tinyText, " 5 -5", biases), 3, api.ErrBias)
	}
	for _, biases := range []string{" x", " 5 x", " 5 -5 x", " 5 05", " 5 -5 +1", " 5/1 5", " -0 1", " 5 - 5"} {
		refused(t, "biases that are none", swap(tinyText, " 5 -5", biases), 6, api.ErrWord)
	}
}
