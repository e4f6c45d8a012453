package gemm

import (
	"math/bits"

	"heddle/api"
)

// kernel tells what a word of a row and the same word of a column give to their sum.
type kernel func(rowSign, rowSome, colSign, colSome uint64) int64

// tally counts the pluses: what else counts is a minus.
func tally(rowSign, rowSome, colSign, colSome uint64) int64 {
	count := rowSome & colSome
	pluses := bits.OnesCount64(count &^ (rowSign ^ colSign))
	return int64(2*pluses - bits.OnesCount64(count))
}

// sum is what the words of a row and a column from one up to another give.
func sum(row, col api.Row, from, to int, k kernel) int64 {
	total := int64(0)
	for w := from; w < to; w++ {
		total += k(row.Sign.Words[w], row.Some.Words[w], col.Sign.Words[w], col.Some.Words[w])
	}
	return total
}

// along writes the sums of a row with each column, four columns at a time.
func along(sums []int64, row api.Row, cols []api.Row, k kernel) {
	done := 0
	for ; len(cols)-done >= 4; done += 4 {
		four(sums[done:done+4], row, cols[done:done+4], k)
	}
	for j := done; j < len(cols); j++ {
		sums[j] = sum(row, cols[j], 0, len(row.Some.Words), k)
	}
}

// four reads each word of the row once for four columns; their sums stay in registers of their own until the end.
func four(sums []int64, row api.Row, cols []api.Row, k kernel) {
	a, b, c, d := cols[0], cols[1], cols[2], cols[3]
	var sumA, sumB, sumC, sumD int64
	for w, some := range row.Some.Words {
		sign := row.Sign.Words[w]
		sumA += k(sign, some, a.Sign.Words[w], a.Some.Words[w])
		sumB += k(sign, some, b.Sign.Words[w], b.Some.Words[w])
		sumC += k(sign, some, c.Sign.Words[w], c.Some.Words[w])
		sumD += k(sign, some, d.Sign.Words[w], d.Some.Words[w])
	}
	sums[0], sums[1], sums[2], sums[3] = sumA, sumB, sumC, sumD
}
