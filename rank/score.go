package rank

import (
	"slices"
	"strconv"

	"heddle/api"
)

// full is how many answers a score counts at most.
const full = 1 << 62

// New is the score of k outputs of which no answer is known yet.
func New(k int) (api.Score, api.Errno) {
	if k < 1 || k > api.MaxScore {
		return api.Score{}, api.ErrArg
	}
	table := make([][]int64, k)
	for i := range table {
		table[i] = make([]int64, k)
	}
	return api.Score{Table: table}, api.OK
}

// Add counts one more answer: told, where right was right.
func Add(s api.Score, right, told int) (api.Score, api.Errno) {
	all, e := count(s)
	if e != api.OK || !isOutput(s, right) || !isOutput(s, told) {
		return api.Score{}, api.ErrArg
	}
	if all == full {
		return api.Score{}, api.ErrFull
	}
	more := clone(s)
	more.Table[right][told]++
	return more, api.OK
}

// Right tells how many answers were right, and how many there were.
func Right(s api.Score) (int64, int64, api.Errno) {
	all, e := count(s)
	if e != api.OK {
		return 0, 0, e
	}
	right := int64(0)
	for i, row := range s.Table {
		right += row[i]
	}
	return right, all, api.OK
}

// Show writes a score: a line for each row, and one that tells how many answers were right.
func Show(s api.Score) (string, api.Errno) {
	right, all, e := Right(s)
	if e != api.OK {
		return "", e
	}
	var text []byte
	for _, row := range s.Table {
		text = appendLine(text, ' ', row...)
	}
	return string(appendLine(text, '/', right, all)), api.OK
}

// appendLine writes numbers in decimal, with a sign between each two, and a newline behind them.
func appendLine(text []byte, between byte, numbers ...int64) []byte {
	for i, n := range numbers {
		if i > 0 {
			text = append(text, between)
		}
		text = strconv.AppendInt(text, n, 10)
	}
	return append(text, '\n')
}

// count is how many answers a score counts; ErrArg, if it may not be.
func count(s api.Score) (int64, api.Errno) {
	k := len(s.Table)
	if k < 1 || k > api.MaxScore {
		return 0, api.ErrArg
	}
	all := int64(0)
	for _, row := range s.Table {
		if len(row) != k {
			return 0, api.ErrArg
		}
		for _, n := range row {
			// A sum of any numbers could leave 64 bits; what is left up to full cannot.
			if n < 0 || n > full-all {
				return 0, api.ErrArg
			}
			all += n
		}
	}
	return all, api.OK
}

// isOutput tells whether a number is that of one of the score's outputs.
func isOutput(s api.Score, n int) bool { return n >= 0 && n < len(s.Table) }

// clone is the score in memory of its own, each row apart.
func clone(s api.Score) api.Score {
	table := make([][]int64, len(s.Table))
	for i, row := range s.Table {
		table[i] = slices.Clone(row)
	}
	return api.Score{Table: table}
}
