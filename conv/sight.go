package conv

import (
	"heddle/api"
	"heddle/dot"
	"heddle/gemm"
	"heddle/patch"
)

// How many rows and patches a block has.
const (
	blockHigh = 8
	blockWide = 32
)

// sight makes the patches of a strip.
type sight struct {
	task
	words []uint64
}

// byPatch takes the sums row by row.
type byPatch struct{ sight }

func (p byPatch) strip(sums []int64, first, end int) {
	patches := p.patches(first, end)
	for k, row := range p.rows {
		for i, seen := range patches {
			// Both may be and are of one length, so this is not refused.
			sums[i*len(p.rows)+k], _ = dot.Some(row, seen)
		}
	}
}

// byBlock takes the sums of some rows and some patches at a time.
type byBlock struct{ sight }

func (b byBlock) strip(sums []int64, first, end int) {
	// Not too many for gemm: all sums of all strips are at most 2^24.
	lists, _ := gemm.Block(b.rows, b.patches(first, end), blockHigh, blockWide)
	for k, list := range lists {
		for i, sum := range list {
			sums[i*len(b.rows)+k] = sum
		}
	}
}

// patches are those of the places from first up to end, run by run: a run ends with its row of the output.
func (v sight) patches(first, end int) []api.Row {
	made := make([]api.Row, 0, end-first)
	for at := first; at < end; at = first + len(made) {
		run := min(end-at, v.out.W-at%v.out.W)
		made = append(made, v.run(at, run)...)
	}
	return made
}

// run are the patches of so many places of one row of the output: patch.See tells them of what the windows see of the tensor, cut out, which keeps it below its bound.
func (v sight) run(place, many int) []api.Row {
	top, left := v.corner(place)
	down := cutOut(top, v.w.R, v.in.H)
	along := cutOut(left, (many-1)*v.w.StepX+v.w.S, v.in.W)
	w := v.w
	w.Top, w.Bottom = down.before, down.behind
	w.Left, w.Right = along.before, along.behind
	seen, _, _ := patch.See(v.part(down, along), w, v.border)
	// Where there is nothing but the border, one window more may fit, or one row of them.
	return seen[:many]
}

// part is the tensor between such rows and columns.
func (v sight) part(down, along cut) api.Cube {
	s := api.Shape{H: down.end - down.first, W: along.end - along.first, C: v.in.C}
	words := make([]uint64, 0, s.H*s.W*v.wide)
	for y := down.first; y < down.end; y++ {
		at := (y*v.in.W + along.first) * v.wide
		words = append(words, v.words[at:at+s.W*v.wide]...)
	}
	return api.Cube{Shape: s, Words: words}
}

// cut is a part of a tensor's rows, or of its columns: from the first up to the end, with the borders before and behind it.
type cut struct{ first, end, before, behind int }

// cutOut is what is seen, from start on, of a side of that length.
func cutOut(start, many, length int) cut {
	end := start + many
	c := cut{first: max(0, start), end: min(end, length), before: max(0, -start), behind: max(0, end-length)}
	if c.first < c.end {
		return c
	}
	// Nothing but the border: as a tensor has a row and a column, the first one stands behind it, unseen.
	return cut{end: 1, before: many}
}
