package convert_test

import (
	"slices"
	"strings"
	"testing"

	"heddle/api"
	"heddle/convert"
	"heddle/packed"
	"heddle/text"
)

// parsed holds Text against text.Parse: its error with its line and no bytes, or the bytes of the model that is meant.
func parsed(t *testing.T, what, s string) api.Errno {
	t.Helper()
	n, line, e := text.Parse(s)
	if e != api.OK {
		unread(t, what, s, line, e)
		return e
	}
	b, at, got := convert.Text(s)
	m, back := packed.Decode(b)
	if got != api.OK || at != 0 || back != api.OK || !same(m, meant(n)) {
		t.Errorf("P20.3, P20.4: %s: Text = %.300x, %d, %d, of which Decode is %s, %d", what, b, at, got, show(m), back)
	}
	return got
}

// lines puts the end of a line for each semicolon.
func lines(s string) string { return strings.ReplaceAll(s, ";", "\n") }

// TestTextsOfTheDocument: doc/07's examples.
func TestTextsOfTheDocument(t *testing.T) {
	for _, c := range []struct {
		text string
		line int
		e    api.Errno
	}{
		{"", 1, api.ErrLine},
		{"net a;", 2, api.ErrLine},
		{"net a;input 1 1 3;end", 3, api.ErrLayers},
		{"net a!;input 1 1 3;end", 1, api.ErrName},
		{";net a;input 0 1 3;end", 3, api.ErrShape},
		{"net a;input 4096 4096 2;end", 2, api.ErrBig},
		{"net a;input 1 1;end", 2, api.ErrWord},
		{"net a;input 1 1 03;end", 2, api.ErrWord},
		{"net;", 1, api.ErrWord},
		{"input 1 1 1", 1, api.ErrLine},
		{"nets a", 1, api.ErrWord},
		{"net a;input 1 1 1;dense 0 binary;end", 3, api.ErrShape},
	} {
		unread(t, c.text, lines(c.text), c.line, c.e)
	}
	for _, c := range []struct {
		text, old, new string
		line           int
		e              api.Errno
	}{
		{tinyText, "w +0-", "w +0", 5, api.ErrWord},
		{tinyText, "w +++", "w +0", 5, api.ErrWord},
		{tinyText, "w +0-;w +++", "w +0;w +0", 3, api.ErrWeight},
		{tinyText, "w +0-", "w +0x", 4, api.ErrWord},
		{tinyText, "w +++;", "w +++;w +++;", 6, api.ErrLine},
		{tinyText, "w +++;", "", 5, api.ErrLine},
		{tinyText, "biases 5 -5", "biases 5", 3, api.ErrBias},
		{tinyText, "biases 5 -5", "n 1 0 0 1;n 1 0 0 1", 3, api.ErrBias},
		{tinyText, "biases 5 -5", "n 1 0 0 1", 7, api.ErrLine},
		{tinyText, "ternary", "binary", 3, api.ErrWeight},
		{tinyText, "biases 5 -5", "biases 5 -2147483264", 3, api.ErrReach},
		{tinyText, "end;", "end;end;", 8, api.ErrLine},
		{tinyText, "end;", "", 7, api.ErrLine},
		{edgeText, "n 1 0 0 1", "n 1 0 0 2/1", 5, api.ErrWord},
		{edgeText, "n 1 0 0 1", "n 1 0 0 0", 3, api.ErrNorm},
		{edgeText, "n 1 0 0 1", "n 1 0 0 -1", 3, api.ErrNorm},
		{edgeText, "conv 1 3 3", "conv 1 5 3", 3, api.ErrFit},
		{edgeText, "border 0", "border 2", 3, api.ErrWindow},
	} {
		old, new := lines(c.old), lines(c.new)
		if !strings.Contains(c.text, old) {
			t.Fatalf("the test's own text has no %q", old)
		}
		unread(t, c.old+" as "+c.new, strings.Replace(c.text, old, new, 1), c.line, c.e)
	}
}

// TestOtherTexts: notes, blank lines and words that are divided otherwise change nothing.
func TestOtherTexts(t *testing.T) {
	for s, n := range map[string]api.Net{tinyText: tiny(), edgeText: edge()} {
		want := fileOf(t, n)
		for what, s := range map[string]string{
			"as it stands":       s,
			"no last end":        strings.TrimSuffix(s, "\n"),
			"notes":              strings.ReplaceAll(s, "\n", " # w +++ end\n"),
			"lines of notes":     "# net\n" + strings.ReplaceAll(s, "\n", "\n#\n"),
			"blank lines":        "\n\n" + strings.ReplaceAll(s, "\n", "\n \t\r\n\n"),
			"tabs":               strings.ReplaceAll(s, " ", "\t \t"),
			"13 ahead of 10":     strings.ReplaceAll(s, "\n", "\r\n"),
			"weights one by one": strings.ReplaceAll(strings.ReplaceAll(s, "++", "+ +"), "+0-", "+ 0 -"),
		} {
			reads(t, n.Name+": "+what, s, want)
		}
	}
}

// TestTextAndSource: where there is a text, Text answers what Convert answers of the source.
func TestTextAndSource(t *testing.T) {
	d := dice(203)
	for range 60 {
		n := d.network()
		s, e := text.Print(n)
		b, eSource := convert.Convert(sourceOf(t, n))
		if e != api.OK || eSource != api.OK {
			t.Fatalf("P20.2: %d, %d", e, eSource)
		}
		reads(t, "any network", s, b)
	}
}

// spoilText changes a text in one place: a word, a line, a byte.
func (d *dice) spoilText(s string) string {
	all := strings.SplitAfter(s, "\n")
	at := d.roll(0, len(all)-1)
	words := strings.Fields(all[at])
	switch d.roll(0, 6) {
	case 0:
		return strings.Join(slices.Delete(all, at, at+1), "")
	case 1:
		return strings.Join(slices.Insert(all, at, one(d, all)), "")
	case 2:
		other := d.roll(0, len(all)-1)
		all[at], all[other] = all[other], all[at]
		return strings.Join(all, "")
	case 3:
		spot := d.roll(0, len(s))
		return s[:spot] + string([]byte{byte(d.roll(0, 255))}) + s[spot:]
	}
	if len(words) > 0 {
		words[d.roll(0, len(words)-1)] = one(d, []string{"0", "1", "2", "3", "-1", "4097", "2147483647", "-2147483648", "binary", "ternary", "+", "++-", "1/2", "0/1", "x", "", "end"})
	}
	all[at] = strings.Join(words, " ") + "\n"
	return strings.Join(all, "")
}

// TestAnyTexts: texts with one or two changes anywhere, and any bytes.
func TestAnyTexts(t *testing.T) {
	d := dice(33)
	mixedText, _ := text.Print(mixed())
	smallText, _ := text.Print(small())
	good := 0
	for range 6000 {
		s := one(&d, []string{tinyText, edgeText, mixedText, smallText})
		for range d.roll(1, 2) {
			s = d.spoilText(s)
		}
		if parsed(t, "a changed text", s) == api.OK {
			good++
		}
		any := make([]byte, d.roll(0, 60))
		for i := range any {
			any[i] = one(&d, []byte("net input conv w+-0\n\n 123#\xff\x00"))
		}
		parsed(t, "any bytes", string(any))
	}
	if good < 200 || good > 5800 {
		t.Errorf("the test's own texts: %d of 6000 are a network's", good)
	}
}

func TestLongTexts(t *testing.T) {
	long := tinyText + strings.Repeat("#", api.MaxText-len(tinyText))
	reads(t, "MaxText bytes", long, fileOf(t, tiny()))
	unread(t, "a byte more", long+"#", 0, api.ErrLong)
	unread(t, "many blanks", strings.Repeat(" ", 3*api.MaxText), 0, api.ErrLong)
	unread(t, "many lines", strings.Repeat("\n", api.MaxText), api.MaxText+1, api.ErrLine)
	unread(t, "a source", string(sourceOf(t, tiny())), 1, api.ErrWord)
}
