package arena_test

import (
	"reflect"
	"slices"
	"sync"
	"testing"

	"heddle/api"
	"heddle/arena"
)

// room is a list in memory of its own, with three marked elements in the room behind it.
func room[T any](list []T, marked T) []T {
	long := append(slices.Clone(list), marked, marked, marked)
	return slices.Clip(long)[:len(list)]
}

// all is a list with the room behind it.
func all[T any](list []T) []T { return list[:cap(list)] }

// over writes v over a list and the room behind it.
func over[T any](list []T, v T) {
	for i := range all(list) {
		all(list)[i] = v
	}
}

// roomy is a model in memory of its own, whose lists all have marked room behind them.
func roomy(m api.Model) api.Model {
	m.Packs = slices.Clone(m.Packs)
	for i, p := range m.Packs {
		p.Rows = slices.Clone(p.Rows)
		for k, r := range p.Rows {
			p.Rows[k].Sign.Words, p.Rows[k].Some.Words = room(r.Sign.Words, 85), room(r.Some.Words, 85)
		}
		p.Rows, p.Threshes, p.Biases = room(p.Rows, api.Row{}), room(p.Threshes, api.Thresh{Mode: 85}), room(p.Biases, 85)
		m.Packs[i] = p
	}
	m.Packs = room(m.Packs, api.Pack{Kind: 85})
	return m
}

// roomyPlan is a plan in memory of its own, with marked room.
func roomyPlan(p api.Plan) api.Plan {
	return api.Plan{Ways: room(p.Ways, 85), Slots: room(p.Slots, api.Slot{At: 85, Size: 85}), Words: p.Words}
}

// picture is all that a model holds, its room too.
func picture(m api.Model) []any {
	seen := []any{m.Name, m.In, len(m.Packs)}
	for _, p := range all(m.Packs) {
		seen = append(seen, p.Kind, p.Weight, p.K, p.Win, p.Border, len(p.Rows), len(p.Threshes), len(p.Biases), slices.Clone(all(p.Threshes)), slices.Clone(all(p.Biases)))
		for _, r := range all(p.Rows) {
			seen = append(seen, r.Sign.Len, r.Some.Len, len(r.Sign.Words), len(r.Some.Words), slices.Clone(all(r.Sign.Words)), slices.Clone(all(r.Some.Words)))
		}
	}
	return seen
}

// pictured is all that a plan holds, its room too.
func pictured(p api.Plan) []any {
	return []any{p.Words, len(p.Ways), len(p.Slots), slices.Clone(all(p.Ways)), slices.Clone(all(p.Slots))}
}

// loud writes over all that a model holds, its room too.
func loud(m api.Model) {
	for _, p := range m.Packs {
		for _, r := range p.Rows {
			over(r.Sign.Words, 99)
			over(r.Some.Words, 99)
		}
		over(p.Rows, api.Row{})
		over(p.Threshes, api.Thresh{})
		over(p.Biases, 99)
	}
	over(m.Packs, api.Pack{})
}

// some are models that may be, and such as are refused.
func some() map[string]api.Model {
	list := models()
	delete(list, "great")
	for what, do := range map[string]func(m *api.Model){
		"a bias more": func(m *api.Model) { m.Packs[3].Biases = append(m.Packs[3].Biases, 1) },
		"a Kind":      func(m *api.Model) { m.Packs[2].Kind = 9 },
		"no layers":   func(m *api.Model) { m.Packs = nil },
		"nothing":     func(m *api.Model) { *m = api.Model{} },
	} {
		m := chapter()
		do(&m)
		list[what] = m
	}
	return list
}

// asked are lists of ways for a model: good ones, and such as are refused.
func asked(m api.Model) [][]int {
	lists := [][]int{nil, {}, {0}, {2}, {-1}, {0, 9}, make([]int, len(m.Packs)), make([]int, len(m.Packs)+1)}
	d := dice(len(m.Packs))
	return append(lists, d.ways(m, len(m.Packs)), d.ways(m, len(m.Packs)/2))
}

// TestMakeLeavesAlone: Make changes nothing that is handed in, nor the room behind it, and keeps nothing of it.
func TestMakeLeavesAlone(t *testing.T) {
	for what, given := range some() {
		for _, list := range asked(given) {
			m, ways := roomy(given), room(list, 85)
			was, wasWays := picture(m), slices.Clone(all(ways))
			p, e := arena.Make(m, ways...)
			if !reflect.DeepEqual(picture(m), was) || !slices.Equal(all(ways), wasWays) {
				t.Errorf("P21.5: %s, %v: Make changed what was handed in", what, list)
			}
			keep := own(p)
			loud(m)
			over(ways, 77)
			if !same(p, keep) {
				t.Errorf("P21.5: %s, %v: the plan changed with what was handed in: %+v, before %+v", what, list, p, keep)
			}
			if again, eToo := arena.Make(given, list...); !same(again, keep) || eToo != e {
				t.Errorf("P21.5: %s, %v: another answer: %d, %+v, before %d, %+v", what, list, eToo, again, e, keep)
			}
		}
	}
}

// TestPlansAreTheirOwn writes plans full, with the room behind them, and looks at all else.
func TestPlansAreTheirOwn(t *testing.T) {
	for what, given := range some() {
		for _, list := range asked(given) {
			m, ways := roomy(given), room(list, 85)
			was, wasWays := picture(m), slices.Clone(all(ways))
			p, e := arena.Make(m, ways...)
			other, _ := arena.Make(m, ways...)
			keep := own(p)
			over(p.Ways, 99)
			if !slices.Equal(p.Slots, keep.Slots) {
				t.Errorf("P21.5: %s, %v: the lists of a plan share memory", what, list)
			}
			over(p.Slots, api.Slot{At: 99, Size: 99})
			_, _ = append(p.Ways, 98), append(p.Slots, api.Slot{At: 98})
			if !reflect.DeepEqual(picture(m), was) || !slices.Equal(all(ways), wasWays) || !same(other, keep) {
				t.Errorf("P21.5: %s, %v: a plan shares memory with what was handed in or with another plan", what, list)
			}
			if again, eToo := arena.Make(m, ways...); !same(again, keep) || eToo != e {
				t.Errorf("P21.5: %s, %v: once an answer is written over: %d, %+v, before %d, %+v", what, list, eToo, again, e, keep)
			}
		}
	}
}

// TestCheckLeavesAlone: Check changes neither the model nor the plan, nor the room behind them, and answers the same again.
func TestCheckLeavesAlone(t *testing.T) {
	for what, given := range some() {
		plans := []api.Plan{{}, plan([]int{1, 0}, slots(0, 3, 0, 0), 3)}
		if p, e := arena.Make(given); e == api.OK {
			less := own(p)
			less.Words--
			plans = append(plans, p, less, api.Plan{Ways: p.Ways[:len(p.Ways)-1], Slots: p.Slots, Words: p.Words}, api.Plan{Ways: p.Ways, Slots: p.Slots[:len(p.Slots)-1], Words: p.Words})
		}
		for _, list := range plans {
			m, p := roomy(given), roomyPlan(list)
			was, wasPlan := picture(m), pictured(p)
			e := arena.Check(m, p)
			if !reflect.DeepEqual(picture(m), was) || !reflect.DeepEqual(pictured(p), wasPlan) {
				t.Errorf("P21.5: %s: Check changed what was handed in: %+v", what, list)
			}
			loud(m)
			over(p.Ways, 77)
			over(p.Slots, api.Slot{At: 77})
			if again := arena.Check(given, list); again != e {
				t.Errorf("P21.5: %s: first %d, then %d: %+v", what, e, again, list)
			}
		}
	}
}

// TestNilAndEmpty: lists without elements are the same as nil.
func TestNilAndEmpty(t *testing.T) {
	for what, m := range some() {
		want, e := arena.Make(m)
		if p, eToo := arena.Make(m, []int{}...); !same(p, want) || eToo != e {
			t.Errorf("P0.4: %s: no ways: %d, %+v; an empty list: %d, %+v", what, e, want, eToo, p)
		}
		if a, b := arena.Check(m, api.Plan{}), arena.Check(m, api.Plan{Ways: []int{}, Slots: []api.Slot{}}); a != b || a == api.OK {
			t.Errorf("P0.4: %s: with nil lists %d, with empty ones %d", what, a, b)
		}
		full := roomy(m)
		for i, p := range full.Packs {
			p.Rows, p.Threshes, p.Biases = append([]api.Row{}, p.Rows...), append([]api.Thresh{}, p.Threshes...), append([]int64{}, p.Biases...)
			full.Packs[i] = p
		}
		if p, eToo := arena.Make(full); !same(p, want) || eToo != e {
			t.Errorf("P0.4: %s: of a model with empty lists: %d, %+v, not %d, %+v", what, eToo, p, e, want)
		}
	}
}

// TestAgain: the same calls again, from several goroutines, answer the same.
func TestAgain(t *testing.T) {
	var group sync.WaitGroup
	for what, m := range some() {
		for _, ways := range asked(m) {
			first, e := arena.Make(m, ways...)
			checked := arena.Check(m, first)
			for range 4 {
				group.Go(func() {
					for range 5 {
						if again, eToo := arena.Make(m, ways...); !same(again, first) || eToo != e {
							t.Errorf("P21.5: %s, %v: first %d, %+v, then %d, %+v", what, ways, e, first, eToo, again)
						}
						if again := arena.Check(m, first); again != checked {
							t.Errorf("P21.5: %s: Check answers first %d, then %d", what, checked, again)
						}
					}
				})
			}
		}
	}
	group.Wait()
}
