package gemm

import (
	"heddle/api"
	"heddle/dot"
)

// within tells whether so many rows, columns or words may be taken at a time.
func within(n int) bool { return n >= 1 && n <= api.MaxSide }

// fault is the first fault of rows and columns.
func fault(rows, cols []api.Row) api.Errno {
	// Divided, as the product of two long lists might wrap round.
	if len(cols) > 0 && len(rows) > api.MaxElems/len(cols) {
		return api.ErrBig
	}
	length := firstLen(rows, cols)
	if e := oddOne(rows, length); e != api.OK {
		return e
	}
	return oddOne(cols, length)
}

// firstLen is the Len of the first of all, which the others must have too.
func firstLen(rows, cols []api.Row) int {
	switch {
	case len(rows) > 0:
		return rows[0].Some.Len
	case len(cols) > 0:
		return cols[0].Some.Len
	}
	return 0
}

// oddOne is the error of the first row that may not be, or has another Len.
func oddOne(list []api.Row, length int) api.Errno {
	for _, r := range list {
		if e := dot.Check(r); e != api.OK {
			return e
		}
		if r.Some.Len != length {
			return api.ErrBits
		}
	}
	return api.OK
}
