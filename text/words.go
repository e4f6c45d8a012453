package text

import (
	"iter"
	"strconv"
	"strings"

	"heddle/api"
	"heddle/frac"
)

const blanks = " \t\r"

// signs are how weights are written: each stands one behind its weight.
const signs = "-0+"

// lines goes through a text's lines with their numbers, their ends and notes cut off.
func lines(text string) iter.Seq2[int, string] {
	return func(yield func(int, string) bool) {
		rest := text
		for at := 1; rest != ""; at++ {
			var line string
			line, rest, _ = strings.Cut(rest, "\n")
			line, _, _ = strings.Cut(line, "#")
			if !yield(at, line) {
				return
			}
		}
	}
}

// words goes through the words of a line.
func words(line string) iter.Seq[string] {
	return func(yield func(string) bool) {
		rest := strings.TrimLeft(line, blanks)
		for rest != "" {
			end := strings.IndexAny(rest, blanks)
			if end < 0 {
				end = len(rest)
			}
			if !yield(rest[:end]) {
				return
			}
			rest = strings.TrimLeft(rest[end:], blanks)
		}
	}
}

// place takes the word that stands at it, or tells that it may not stand there.
type place func(word string) bool

// fill lays each word at its place; there must be as many words as places.
func fill(words []string, places ...place) bool {
	if len(words) != len(places) {
		return false
	}
	for i, take := range places {
		if !take(words[i]) {
			return false
		}
	}
	return true
}

// number takes a number that is written just as strconv would write it.
func number[T int | int64](to *T) place {
	return func(word string) bool {
		v, err := strconv.ParseInt(word, 10, 64)
		*to = T(v)
		return err == nil && strconv.FormatInt(v, 10) == word
	}
}

// fraction takes a fraction as frac shows it.
func fraction(to *api.Frac) place {
	return func(word string) bool {
		f, e := frac.Read(word)
		*to = f
		return e == api.OK
	}
}

// name takes any word. It is copied: a piece of the text would keep the whole of it.
func name(to *string) place {
	return func(word string) bool {
		*to = strings.Clone(word)
		return true
	}
}

// mark takes one word alone.
func mark(wanted string) place {
	return func(word string) bool { return word == wanted }
}

// weightKind takes the name of a kind of weights.
func weightKind(to *int) place {
	return func(word string) bool {
		for i, known := range weightNames {
			if word == known {
				*to = api.Binary + i
				return true
			}
		}
		return false
	}
}

// weightNames are the kinds of weights, from Binary on.
var weightNames = [...]string{"binary", "ternary"}
