package cache_test

import (
	"bytes"
	"fmt"
	"slices"
	"sync"
	"testing"

	"heddle/api"
)

// together runs work in so many goroutines at the same time.
func together(count int, work func(g int)) {
	var group sync.WaitGroup
	for g := range count {
		group.Go(func() { work(g) })
	}
	group.Wait()
}

// TestGetsTogether: no Get goes uncounted, and what each of them finds is whole.
func TestGetsTogether(t *testing.T) {
	const goroutines, times = 8, 3000
	c := made(t, 4)
	putAll(t, c, "a", "b", "c", "d")
	together(goroutines, func(g int) {
		for i := range times {
			k := (g + i) % 5
			r, ok := c.Get([]byte{byte('a' + k)})
			if ok != (k < 4) || ok && r.Arg != k+1 {
				t.Errorf("P25.2: Get of %c: %v, %v", 'a'+k, r, ok)
			}
		}
	})
	statsAre(t, c, goroutines*times*4/5, goroutines*times/5)
	keys := keysOf(c)
	slices.Sort(keys)
	if !slices.Equal(keys, []string{"a", "b", "c", "d"}) {
		t.Errorf("P25.5: keys %v", keys)
	}
}

// TestPutsTogether: where each goroutine has keys of its own and all have room, all are there.
func TestPutsTogether(t *testing.T) {
	const goroutines, each = 8, 500
	c := made(t, goroutines*each)
	together(goroutines, func(g int) {
		for i := range each {
			key := fmt.Sprint(g, " ", i)
			putIs(t, c, key, result(g, int64(i)), api.OK)
			getIs(t, c, key, result(g, int64(i)))
		}
	})
	statsAre(t, c, goroutines*each, 0)
	keys := keysOf(c)
	for g := range goroutines {
		last := each
		for i, key := range keys {
			// Each goroutine's keys stand in the order in which it put them, the last one first.
			if key == fmt.Sprint(g, " ", last-1) {
				last--
			} else if key == fmt.Sprint(g, " ", last) {
				t.Errorf("P25.5: the key %q stands twice, at %d", key, i)
			}
		}
		if last != 0 {
			t.Errorf("P25.3: of the goroutine %d, %d keys are not there or not in their order", g, last)
		}
	}
	if len(keys) != goroutines*each {
		t.Errorf("P25.5: %d keys", len(keys))
	}
	together(goroutines, func(g int) { forgetIs(t, c, fmt.Sprint(g, " "), each) })
	keysAre(t, c)
}

// TestOneKeyTogether: of a key that one goroutine puts again and again the others find each Result whole, and never an older one behind a newer one.
func TestOneKeyTogether(t *testing.T) {
	const times = 3000
	c := made(t, 2)
	putIs(t, c, "k", result(0), api.OK)
	together(6, func(g int) {
		last := 0
		for i := range times {
			if g == 0 {
				c.Put([]byte("k"), api.Result{Logits: slices.Repeat([]int64{int64(i)}, 8), Arg: i})
				continue
			}
			r, ok := c.Get([]byte("k"))
			if !ok || r.Arg < last || slices.ContainsFunc(r.Logits, func(n int64) bool { return n != int64(r.Arg) }) {
				t.Errorf("P25.7: behind %d: %v, %v", last, r, ok)
			}
			last = r.Arg
			for j := range r.Logits {
				r.Logits[j] = -1
			}
		}
	})
	getIs(t, c, "k", result(times-1, slices.Repeat([]int64{times - 1}, 8)...))
	statsAre(t, c, 5*times+1, 0)
}

// TestAllTogether: whatever is called meanwhile, there are never more keys than room, none stands twice, and none has another one's Result.
func TestAllTogether(t *testing.T) {
	const room, goroutines, times = 5, 8, 2000
	c := made(t, room)
	other := made(t, room)
	putAll(t, other, "a", "b")
	gets := make([]int64, goroutines)
	together(goroutines, func(g int) {
		d := dice(g)
		for range times {
			key := d.key(2)
			switch n := d.roll(100); {
			case n < 40:
				c.Put([]byte(key), api.Result{Logits: []int64{int64(len(key))}, Arg: len(key)})
			case n < 80:
				gets[g]++
				if r, ok := c.Get([]byte(key)); ok && !same(r, result(len(key), int64(len(key)))) {
					t.Errorf("P25.7: Get(%q) = %v", key, r)
				}
			case n < 84:
				if n := c.Forget([]byte(key)); n < 0 || n > room {
					t.Errorf("P25.4: Forget(%q) = %d", key, n)
				}
			case n < 85:
				c.Clear()
			case n < 95:
				keys := c.Keys()
				slices.SortFunc(keys, bytes.Compare)
				if len(keys) > room || len(slices.CompactFunc(keys, bytes.Equal)) != len(keys) {
					t.Errorf("P25.5: keys %q", keys)
				}
			default:
				if found, missed := c.Stats(); found < 0 || missed < 0 || found+missed > goroutines*times {
					t.Errorf("P25.5: Stats %d, %d", found, missed)
				}
			}
		}
	})
	sum := int64(0)
	for _, n := range gets {
		sum += n
	}
	if found, missed := c.Stats(); found+missed != sum {
		t.Errorf("P25.2: %d and %d Gets are counted, not %d in all", found, missed, sum)
	}
	keysAre(t, other, "b", "a")
	statsAre(t, other, 0, 0)
}

// TestForgetsTogether: each key that goes is told by one Forget alone.
func TestForgetsTogether(t *testing.T) {
	const goroutines, count = 8, 1000
	c := made(t, count)
	for range 10 {
		for i := range count {
			putIs(t, c, fmt.Sprint("k ", i), result(i), api.OK)
		}
		told := make([]int, goroutines)
		together(goroutines, func(g int) {
			for i := range 10 {
				told[g] += c.Forget([]byte(fmt.Sprint("k ", (i+g)%10)))
			}
		})
		sum := 0
		for _, n := range told {
			sum += n
		}
		if sum != count {
			t.Fatalf("P25.4: %d keys went, not %d", sum, count)
		}
		keysAre(t, c)
	}
}
