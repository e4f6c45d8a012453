package cache

import (
	"fmt"
	"slices"
	"testing"

	"heddle/api"
)

// TestCountsStay: a count that is 2^62 stays there; the other one goes on.
func TestCountsStay(t *testing.T) {
	if more(0) != 1 || more(1<<31-1) != 1<<31 || more(1<<62-2) != 1<<62-1 || more(1<<62-1) != 1<<62 || more(1<<62) != 1<<62 {
		t.Error("P25.2: a count does not go up by one, up to 2^62")
	}
	c, _ := New(1)
	c.Put([]byte("a"), api.Result{Arg: 5})
	c.found, c.missed = 1<<62-2, 1<<62-1
	for _, want := range [][2]int64{{1<<62 - 1, 1 << 62}, {1 << 62, 1 << 62}, {1 << 62, 1 << 62}} {
		if r, ok := c.Get([]byte("a")); !ok || r.Arg != 5 {
			t.Errorf("P25.2: Get = %v, %v", r, ok)
		}
		if _, ok := c.Get([]byte("b")); ok {
			t.Error("P25.2: Get finds what is not there")
		}
		if found, missed := c.Stats(); found != want[0] || missed != want[1] {
			t.Errorf("P25.2: counts %d, %d, not %d, %d", found, missed, want[0], want[1])
		}
	}
	c.found, c.missed = 1<<62, 7
	c.Get([]byte("a"))
	c.Get([]byte("b"))
	c.Clear()
	c.Forget(nil)
	if found, missed := c.Stats(); found != 1<<62 || missed != 8 {
		t.Errorf("P25.2: counts %d, %d, not 2^62, 8", found, missed)
	}
}

// keysOf are the keys of a row, which is gone through by its neighbours in both directions.
func keysOf(t *testing.T, r *row) (keys []string) {
	t.Helper()
	var ahead *entry
	for e := r.first; e != nil; e = e.behind {
		if e.ahead != ahead {
			t.Fatalf("the neighbours of %q and of the one ahead of it are not each other", e.key)
		}
		keys, ahead = append(keys, e.key), e
	}
	if r.last != ahead {
		t.Fatal("the last of the row is not its last")
	}
	return keys
}

// rowOf is a row of these keys, with its entries in their order.
func rowOf(keys ...string) (*row, []*entry) {
	r := &row{}
	entries := make([]*entry, len(keys))
	for i := len(keys) - 1; i >= 0; i-- {
		entries[i] = &entry{key: keys[i]}
		r.add(entries[i])
	}
	return r, entries
}

// TestRow: an entry is taken out, and put first, wherever it stands.
func TestRow(t *testing.T) {
	all := []string{"a", "b", "c", "d"}
	for length := range len(all) + 1 {
		keys := all[:length]
		r, _ := rowOf(keys...)
		if got := keysOf(t, r); !slices.Equal(got, keys) {
			t.Errorf("row of %v: %v", keys, got)
		}
		for i := range keys {
			rest := slices.Delete(slices.Clone(keys), i, i+1)
			r, entries := rowOf(keys...)
			r.drop(entries[i])
			if got := keysOf(t, r); !slices.Equal(got, rest) {
				t.Errorf("%v without %s: %v", keys, keys[i], got)
			}
			r.add(entries[i])
			want := append([]string{keys[i]}, rest...)
			if got := keysOf(t, r); !slices.Equal(got, want) {
				t.Errorf("%v, %s put in again: %v", keys, keys[i], got)
			}
			r, entries = rowOf(keys...)
			r.lead(entries[i])
			if got := keysOf(t, r); !slices.Equal(got, want) {
				t.Errorf("%v led by %s: %v", keys, keys[i], got)
			}
		}
	}
}

// TestWalk: a row is gone through in its order, up to where the walk ends, also while those that it comes to are taken out.
func TestWalk(t *testing.T) {
	keys := []string{"a", "b", "c", "d"}
	for mask := range 16 {
		for stop := range 5 {
			r, _ := rowOf(keys...)
			var seen, want []string
			for e := range r.all() {
				if len(seen) == stop {
					break
				}
				if mask>>len(seen)&1 == 1 {
					r.drop(e)
				}
				seen = append(seen, e.key)
			}
			for i, key := range keys {
				if i >= stop || mask>>i&1 == 0 {
					want = append(want, key)
				}
			}
			if got := keysOf(t, r); !slices.Equal(seen, keys[:stop]) || !slices.Equal(got, want) {
				t.Errorf("walk to %d, mask %b: seen %v, left %v", stop, mask, seen, got)
			}
		}
	}
}

// TestRowAndMap: behind any calls the map has just the row's entries, by their keys, and there is room for all.
func TestRowAndMap(t *testing.T) {
	for room := 1; room <= 5; room++ {
		c, _ := New(room)
		for n := range 3000 {
			key := []byte(fmt.Sprint(n * n % 31 % 9))
			switch n * 7 % 13 {
			case 0, 1, 2, 3, 4, 5, 6:
				c.Put(key, api.Result{})
			case 7, 8, 9, 10:
				c.Get(key)
			case 11:
				c.Forget(key)
			default:
				if n%5 == 0 {
					c.Clear()
				}
			}
			keys := keysOf(t, &c.row)
			if len(keys) > room || len(keys) != len(c.entries) {
				t.Fatalf("P25.3: %d keys in the row, %d in the map, room for %d", len(keys), len(c.entries), room)
			}
			for e := range c.row.all() {
				if c.entries[e.key] != e {
					t.Fatalf("P25.7: the entry of %q is not the row's", e.key)
				}
			}
		}
	}
}
