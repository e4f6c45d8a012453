package cache_test

import (
	"bytes"
	"math"
	"runtime"
	"slices"
	"testing"

	"heddle/api"
	"heddle/cache"
)

// room is a list in memory of its own, with three marked elements in the room behind it.
func room[T any](list []T, marked T) []T {
	return slices.Clip(append(slices.Clone(list), marked, marked, marked))[:len(list)]
}

// whole is a list with the room behind it.
func whole[T any](list []T) []T { return list[:cap(list)] }

// over writes v over a list and the room behind it.
func over[T any](list []T, v T) {
	for i := range whole(list) {
		whole(list)[i] = v
	}
}

// spoil writes into a list and behind it in all ways.
func spoil[T any](list []T, v T) {
	over(list, v)
	_ = append(list, v, v)
	_ = append(list[:0], v)
}

// someKeys are of all the sizes in which memory is handed out, and the greatest one.
func someKeys() (keys []string) {
	for _, length := range []int{0, 1, 2, 3, 7, 8, 9, 15, 16, 17, 31, 32, 33, 100, 1000, 65536} {
		keys = append(keys, string(bytes.Repeat([]byte{byte('a' + len(keys))}, length)))
	}
	return keys
}

// someLogits are lists of many lengths.
func someLogits() (lists [][]int64) {
	for _, length := range []int{0, 1, 2, 3, 4, 5, 8, 9, 16, 17, 100, 1000, 4096} {
		l := make([]int64, length)
		for i := range l {
			l[i] = int64(i-2) * math.MaxInt32
		}
		lists = append(lists, l)
	}
	return lists
}

// TestHandedInStays: what is handed in is not changed, its spare room neither.
func TestHandedInStays(t *testing.T) {
	c := made(t, 5)
	for round := range 2 {
		for _, text := range append(someKeys(), string(make([]byte, 65537))) {
			for _, list := range someLogits() {
				key, logits := room([]byte(text), 'M'), room(list, 1<<40)
				keyWas, logitsWas := slices.Clone(whole(key)), slices.Clone(whole(logits))
				c.Put(key, api.Result{Logits: logits, Arg: round})
				c.Get(key)
				c.Put(key, api.Result{Logits: logits, Arg: round + 1})
				c.Keys()
				c.Get(key)
				c.Forget(key)
				if !slices.Equal(whole(key), keyWas) || !slices.Equal(whole(logits), logitsWas) {
					t.Fatalf("P25.8: what was handed in changed: key %s, %d Logits", short(text), len(list))
				}
			}
		}
		c.Clear()
	}
}

// TestHandedInIsNotKept: a key, a front or Logits that are written over behind the call change nothing.
func TestHandedInIsNotKept(t *testing.T) {
	lists := someLogits()
	keys := someKeys()
	c := made(t, len(keys))
	for i, text := range keys {
		for range 2 {
			key, logits := room([]byte(text), 'M'), room(lists[i%len(lists)], 1<<40)
			putIs(t, c, string(key), result(i), api.OK)
			if e := c.Put(key, api.Result{Logits: logits, Arg: i}); e != api.OK {
				t.Fatalf("P25.3: Put(%s) = %d", short(text), e)
			}
			spoil(key, '!')
			spoil(logits, -9)
			getIs(t, c, text, result(i, lists[i%len(lists)]...))
			asked := room([]byte(text), 'M')
			c.Get(asked)
			spoil(asked, '?')
			front := room([]byte(text+"x"), 'M')
			c.Forget(front)
			spoil(front, '?')
		}
	}
	want := slices.Clone(keys)
	slices.Reverse(want)
	keysAre(t, c, want...)
	for i, text := range keys {
		getIs(t, c, text, result(i, lists[i%len(lists)]...))
	}
	if n := len(c.Keys()); n != len(keys) {
		t.Errorf("P25.8: %d keys", n)
	}
}

// TestOneKeyWrittenOn: a program that writes all its keys and Logits into the same memory gets them back apart.
func TestOneKeyWrittenOn(t *testing.T) {
	c := made(t, 256)
	key, logits := make([]byte, 3, 9), make([]int64, 2, 9)
	for i := range 256 {
		key[1], logits[0] = byte(i), int64(i)
		c.Put(key, api.Result{Logits: logits, Arg: i})
	}
	for i := range 256 {
		getIs(t, c, string([]byte{0, byte(i), 0}), result(i, int64(i), 0))
	}
}

// TestLogitsOfAnAnswerAreNew: whoever writes into the Logits of an answer, and behind them, changes nothing that is kept and no other answer.
func TestLogitsOfAnAnswerAreNew(t *testing.T) {
	for i, list := range someLogits() {
		c := made(t, 2)
		putIs(t, c, "a", result(i, list...), api.OK)
		putIs(t, c, "b", result(i, list...), api.OK)
		first, _ := c.Get([]byte("a"))
		second, _ := c.Get([]byte("a"))
		other, _ := c.Get([]byte("b"))
		spoil(first.Logits, 77)
		if !same(second, result(i, list...)) || !same(other, result(i, list...)) {
			t.Errorf("P25.8: two answers of %d Logits share memory", len(list))
		}
		getIs(t, c, "a", result(i, list...))
		getIs(t, c, "b", result(i, list...))
		spoil(second.Logits, 78)
		putIs(t, c, "a", result(i+1), api.OK)
		if !same(other, result(i, list...)) {
			t.Errorf("P25.8: an answer of %d Logits changed", len(list))
		}
		// What was answered is handed in again.
		putIs(t, c, "a", other, api.OK)
		spoil(other.Logits, 79)
		getIs(t, c, "a", result(i, list...))
		getIs(t, c, "b", result(i, list...))
	}
}

// TestOneListForTwoKeys: the same Logits under two keys are kept twice.
func TestOneListForTwoKeys(t *testing.T) {
	c := made(t, 2)
	l := room([]int64{1, 2, 3}, 9)
	c.Put([]byte("a"), api.Result{Logits: l})
	c.Put([]byte("b"), api.Result{Logits: l[:2]})
	a, _ := c.Get([]byte("a"))
	_ = append(a.Logits[:1], 50)
	b, _ := c.Get([]byte("b"))
	_ = append(b.Logits, 60)
	getIs(t, c, "a", result(0, 1, 2, 3))
	getIs(t, c, "b", result(0, 1, 2))
	if !slices.Equal(whole(l), []int64{1, 2, 3, 9, 9, 9}) {
		t.Errorf("P25.8: what was handed in changed: %v", whole(l))
	}
}

// TestKeysOfAnAnswerAreNew: whoever writes into a key of an answer, into its list, and behind them, changes no other key of it, nothing that is kept and no other answer.
func TestKeysOfAnAnswerAreNew(t *testing.T) {
	want := someKeys()
	c := made(t, len(want)+3)
	for i, key := range want {
		putIs(t, c, key, result(i), api.OK)
	}
	slices.Reverse(want)
	other := c.Keys()
	for i := range want {
		mine := c.Keys()
		if len(mine) != len(want) {
			t.Fatalf("P25.5: %d keys", len(mine))
		}
		spoil(mine[i], '!')
		for j, key := range mine {
			if j != i && string(key) != want[j] {
				t.Fatalf("P25.8: the keys %d and %d of an answer share memory", i, j)
			}
		}
		spoil(mine, []byte("another"))
		keysAre(t, c, want...)
	}
	for i, key := range other {
		if string(key) != want[i] {
			t.Errorf("P25.8: the key %d of an earlier answer is %s", i, short(string(key)))
		}
	}
	for i, key := range want {
		getIs(t, c, key, result(len(want)-1-i))
	}
	c.Clear()
	if string(other[0]) != want[0] {
		t.Error("P25.8: Clear changed an answer")
	}
}

// TestNilAndEmpty: lists without elements are the same as nil.
func TestNilAndEmpty(t *testing.T) {
	c := made(t, 2)
	for _, empty := range [][]byte{nil, {}, []byte("abc")[:0], make([]byte, 0, 9)} {
		for _, other := range [][]byte{nil, {}, []byte("abc")[3:]} {
			for _, none := range [][]int64{nil, {}, {1, 2}, make([]int64, 0, 9)} {
				if e := c.Put(empty, api.Result{Logits: none[:0], Arg: 4}); e != api.OK {
					t.Errorf("P0.4: Put = %d", e)
				}
				if r, ok := c.Get(other); !ok || r.Arg != 4 || len(r.Logits) != 0 {
					t.Errorf("P0.4: Get = %v, %v", r, ok)
				}
				keysAre(t, c, "")
				if n := c.Forget(other); n != 1 {
					t.Errorf("P0.4: Forget = %d", n)
				}
			}
		}
	}
	if keys := c.Keys(); len(keys) != 0 {
		t.Errorf("P25.5: %d keys of an empty cache", len(keys))
	}
}

// held is how many bytes the program has that it may reach.
func held() int64 {
	var m runtime.MemStats
	runtime.GC()
	runtime.GC()
	runtime.ReadMemStats(&m)
	return int64(m.HeapAlloc)
}

// TestWhatGoesIsNotHeld: what was let go, what was put over, and what was handed in takes no memory.
func TestWhatGoesIsNotHeld(t *testing.T) {
	const times, size = 64, 1 << 17 // a MiB of Logits each
	for name, fill := range map[string]func(c *cache.Cache, key []byte){
		"another Put": func(c *cache.Cache, key []byte) {
			c.Put([]byte("one"), api.Result{Logits: make([]int64, size)})
		},
		"where there was no room": func(c *cache.Cache, key []byte) {
			c.Put(key, api.Result{Logits: make([]int64, size)})
			c.Put(append(key, 1), api.Result{})
			c.Put(append(key, 2), api.Result{})
		},
		"by Forget": func(c *cache.Cache, key []byte) {
			c.Put(key, api.Result{Logits: make([]int64, size)})
			c.Forget(key[:1])
		},
		"by Clear": func(c *cache.Cache, key []byte) {
			c.Put(key, api.Result{Logits: make([]int64, size)})
			c.Clear()
		},
		"handed in without elements": func(c *cache.Cache, key []byte) {
			c.Put(append(make([]byte, 0, 8*size), key...), api.Result{Logits: make([]int64, size)[:0]})
		},
	} {
		caches := make([]*cache.Cache, 4)
		for i := range caches {
			caches[i] = made(t, 2)
		}
		roomy := made(t, 4096)
		before := held()
		for i := range times {
			key := []byte{byte(i), 'k', 'e', 'y'}
			fill(caches[i%len(caches)], key)
			fill(roomy, key[:1:1])
			if name == "where there was no room" {
				roomy.Forget(nil)
			}
		}
		if more := held() - before; more > times/2<<20 {
			t.Errorf("%s: %d bytes are held", name, more)
		}
		runtime.KeepAlive(caches)
		runtime.KeepAlive(roomy)
	}
}
