package cache_test

import (
	"fmt"
	"math"
	"slices"
	"strings"
	"testing"

	"heddle/api"
	"heddle/cache"
)

func made(t *testing.T, room int) *cache.Cache {
	t.Helper()
	c, e := cache.New(room)
	if c == nil || e != api.OK {
		t.Fatalf("P25.1: New(%d) = %v, %d", room, c, e)
	}
	return c
}

// result is one with that Arg and those Logits.
func result(arg int, logits ...int64) api.Result { return api.Result{Logits: logits, Arg: arg} }

func same(a, b api.Result) bool { return a.Arg == b.Arg && slices.Equal(a.Logits, b.Logits) }

// short is a key as a text, or the front of a long one with its length.
func short(key string) string {
	if len(key) <= 20 {
		return fmt.Sprintf("%q", key)
	}
	return fmt.Sprintf("%q.. of %d bytes", key[:20], len(key))
}

// shorts are the keys, or of many the first ones with their number.
func shorts(keys []string) string {
	var texts []string
	for _, key := range keys[:min(8, len(keys))] {
		texts = append(texts, short(key))
	}
	return fmt.Sprintf("%d: %s", len(keys), strings.Join(texts, " "))
}

// keysOf are the cache's keys as texts.
func keysOf(c *cache.Cache) (keys []string) {
	for _, key := range c.Keys() {
		keys = append(keys, string(key))
	}
	return keys
}

func getIs(t *testing.T, c *cache.Cache, key string, want api.Result) {
	t.Helper()
	if r, ok := c.Get([]byte(key)); !ok || !same(r, want) {
		t.Errorf("P25.2: Get(%s) = %v, %v, not %v", short(key), r, ok, want)
	}
}

func getNone(t *testing.T, c *cache.Cache, key string) {
	t.Helper()
	if r, ok := c.Get([]byte(key)); ok || r.Arg != 0 || len(r.Logits) != 0 {
		t.Errorf("P25.2: Get(%s) = %v, %v, not the zero Result, false", short(key), r, ok)
	}
}

func putIs(t *testing.T, c *cache.Cache, key string, r api.Result, want api.Errno) {
	t.Helper()
	if e := c.Put([]byte(key), r); e != want {
		t.Errorf("P25.3: Put(%s) = %d, not %d", short(key), e, want)
	}
}

// putAll puts keys one behind the other, with the Args 1, 2 and so on.
func putAll(t *testing.T, c *cache.Cache, keys ...string) {
	t.Helper()
	for i, key := range keys {
		putIs(t, c, key, result(i+1), api.OK)
	}
}

func forgetIs(t *testing.T, c *cache.Cache, front string, want int) {
	t.Helper()
	if n := c.Forget([]byte(front)); n != want {
		t.Errorf("P25.4: Forget(%s) = %d, not %d", short(front), n, want)
	}
}

// keysAre asks the keys twice.
func keysAre(t *testing.T, c *cache.Cache, want ...string) {
	t.Helper()
	for range 2 {
		if keys := keysOf(c); !slices.Equal(keys, want) {
			t.Errorf("P25.5: Keys = %s, not %s", shorts(keys), shorts(want))
		}
	}
}

// statsAre asks the counts twice.
func statsAre(t *testing.T, c *cache.Cache, found, missed int64) {
	t.Helper()
	for range 2 {
		if a, b := c.Stats(); a != found || b != missed {
			t.Errorf("P25.5: Stats = %d, %d, not %d, %d", a, b, found, missed)
		}
	}
}

// numbered are the keys of the numbers from the last one down to the first one.
func numbered(last, first int) (keys []string) {
	for i := last; i >= first; i-- {
		keys = append(keys, fmt.Sprint("key ", i))
	}
	return keys
}

func TestNew(t *testing.T) {
	for _, room := range []int{math.MinInt, -1 << 32, -4096, -1, 0, 4097, 1 << 32, 1<<32 + 1, math.MaxInt} {
		if c, e := cache.New(room); c != nil || e != api.ErrArg {
			t.Errorf("P25.1: New(%d) = %v, %d, not ErrArg", room, c, e)
		}
	}
	for _, room := range []int{1, 2, 3, 4095, 4096} {
		c := made(t, room)
		keysAre(t, c)
		statsAre(t, c, 0, 0)
		getNone(t, c, "")
		forgetIs(t, c, "", 0)
		c.Clear()
		keysAre(t, c)
		statsAre(t, c, 0, 1)
	}
}

// TestRoom: there are as many entries as there is room for, not one less and not one more.
func TestRoom(t *testing.T) {
	for _, room := range []int{1, 2, 3, 7, 8, 9, 255, 256, 257, 4095, 4096} {
		c := made(t, room)
		rising := numbered(room+3, 1)
		slices.Reverse(rising)
		putAll(t, c, rising[:room-1]...)
		keysAre(t, c, numbered(room-1, 1)...)
		putAll(t, c, rising[room-1])
		keysAre(t, c, numbered(room, 1)...)
		putAll(t, c, rising[room])
		keysAre(t, c, numbered(room+1, 2)...)
		putAll(t, c, rising[room+1:]...)
		keysAre(t, c, numbered(room+3, 4)...)
		getNone(t, c, "key 1")
		getNone(t, c, "key 3")
		statsAre(t, c, 0, 2)
	}
}

func TestGet(t *testing.T) {
	c := made(t, 4)
	putIs(t, c, "a", result(1, 5, -6), api.OK)
	putIs(t, c, "b", result(2), api.OK)
	putIs(t, c, "c", result(-3, 7), api.OK)
	getIs(t, c, "c", result(-3, 7))
	keysAre(t, c, "c", "b", "a")
	statsAre(t, c, 1, 0)
	getIs(t, c, "b", result(2))
	keysAre(t, c, "b", "c", "a")
	statsAre(t, c, 2, 0)
	getIs(t, c, "a", result(1, 5, -6))
	keysAre(t, c, "a", "b", "c")
	statsAre(t, c, 3, 0)
	for i, key := range []string{"", "d", "A", "a\x00", "\x00a", "ab", "bc", "abc"} {
		getNone(t, c, key)
		keysAre(t, c, "a", "b", "c")
		statsAre(t, c, 3, int64(i+1))
	}
	getIs(t, c, "a", result(1, 5, -6))
	getIs(t, c, "a", result(1, 5, -6))
	keysAre(t, c, "a", "b", "c")
	statsAre(t, c, 5, 8)
}

func TestPut(t *testing.T) {
	c := made(t, 3)
	putIs(t, c, "a", result(1), api.OK)
	putIs(t, c, "b", result(2), api.OK)
	keysAre(t, c, "b", "a")
	putIs(t, c, "a", result(3, 4, 5), api.OK)
	keysAre(t, c, "a", "b")
	getIs(t, c, "a", result(3, 4, 5))
	putIs(t, c, "a", result(6), api.OK)
	getIs(t, c, "a", result(6))
	getIs(t, c, "b", result(2))
	putIs(t, c, "c", result(7), api.OK)
	keysAre(t, c, "c", "b", "a")
	putIs(t, c, "b", result(8), api.OK)
	keysAre(t, c, "b", "c", "a")
	putIs(t, c, "b", result(8), api.OK)
	keysAre(t, c, "b", "c", "a")
	statsAre(t, c, 3, 0)
	getIs(t, c, "c", result(7))
	getIs(t, c, "b", result(8))
	getIs(t, c, "a", result(6))
	statsAre(t, c, 6, 0)
}

// TestLastGoes: where there is no room, the last of the row goes, and a key that was moved ahead is not the last.
func TestLastGoes(t *testing.T) {
	c := made(t, 3)
	putAll(t, c, "a", "b", "c")
	getIs(t, c, "a", result(1))
	putAll(t, c, "d")
	keysAre(t, c, "d", "a", "c")
	putAll(t, c, "c")
	putAll(t, c, "e")
	keysAre(t, c, "e", "c", "d")
	getNone(t, c, "a")
	getNone(t, c, "b")
	keysAre(t, c, "e", "c", "d")
	getIs(t, c, "c", result(1))
	getIs(t, c, "d", result(1))
	putAll(t, c, "e", "d", "f")
	keysAre(t, c, "f", "d", "e")
	// A Put of a key that is there lets none go.
	for _, key := range []string{"e", "d", "f", "f", "e"} {
		putAll(t, c, key)
	}
	keysAre(t, c, "e", "f", "d")
	putAll(t, c, "a")
	keysAre(t, c, "a", "e", "f")
	statsAre(t, c, 3, 2)
}

func TestRoomOfOne(t *testing.T) {
	c := made(t, 1)
	for i, key := range []string{"a", "b", "", "a", "a", "ab"} {
		putIs(t, c, key, result(i), api.OK)
		keysAre(t, c, key)
		getIs(t, c, key, result(i))
		getNone(t, c, "other")
	}
	getNone(t, c, "a")
	keysAre(t, c, "ab")
	forgetIs(t, c, "a", 1)
	keysAre(t, c)
	putAll(t, c, "x", "y")
	keysAre(t, c, "y")
	c.Clear()
	keysAre(t, c)
	putAll(t, c, "z")
	keysAre(t, c, "z")
	statsAre(t, c, 6, 7)
}

// TestLongKeys: a key has at most 65536 bytes. A longer one is refused, whatever is there; it is not cut.
func TestLongKeys(t *testing.T) {
	most := strings.Repeat("k", 65536)
	other := most[1:] + "l"
	c := made(t, 2)
	putIs(t, c, most, result(1, 2), api.OK)
	putIs(t, c, other, result(3), api.OK)
	getIs(t, c, most, result(1, 2))
	keysAre(t, c, most, other)
	for i, key := range []string{most + "k", most + "\x00", other + "k", strings.Repeat("k", 1<<17), strings.Repeat("\x00", 1<<20)} {
		putIs(t, c, key, result(9, 9), api.ErrLong)
		keysAre(t, c, most, other)
		statsAre(t, c, 1, int64(i))
		getNone(t, c, key)
		keysAre(t, c, most, other)
		statsAre(t, c, 1, int64(i+1))
		forgetIs(t, c, key, 0)
		keysAre(t, c, most, other)
	}
	getIs(t, c, other, result(3))
	getIs(t, c, most, result(1, 2))
	putIs(t, c, most[1:], result(4), api.OK)
	keysAre(t, c, most[1:], most)
	forgetIs(t, c, most, 1)
	keysAre(t, c, most[1:])
	forgetIs(t, c, most[1:], 1)
	keysAre(t, c)
	putIs(t, c, most+"k", result(9), api.ErrLong)
	keysAre(t, c)
	statsAre(t, c, 3, 5)
}

func TestForget(t *testing.T) {
	all := []string{"", "a", "ab", "abc", "b", "ba", "a\x00", "\xff", "\xff\xfe"}
	for _, x := range []struct {
		front string
		left  []string
	}{
		{"", nil},
		{"a", []string{"\xff\xfe", "\xff", "ba", "b", ""}},
		{"ab", []string{"\xff\xfe", "\xff", "a\x00", "ba", "b", "a", ""}},
		{"abc", []string{"\xff\xfe", "\xff", "a\x00", "ba", "b", "ab", "a", ""}},
		{"abcd", []string{"\xff\xfe", "\xff", "a\x00", "ba", "b", "abc", "ab", "a", ""}},
		{"b", []string{"\xff\xfe", "\xff", "a\x00", "abc", "ab", "a", ""}},
		{"c", []string{"\xff\xfe", "\xff", "a\x00", "ba", "b", "abc", "ab", "a", ""}},
		{"a\x00", []string{"\xff\xfe", "\xff", "ba", "b", "abc", "ab", "a", ""}},
		{"\xff", []string{"a\x00", "ba", "b", "abc", "ab", "a", ""}},
		{"\xff\xfe", []string{"\xff", "a\x00", "ba", "b", "abc", "ab", "a", ""}},
		{"\xff\xfe\xfd", []string{"\xff\xfe", "\xff", "a\x00", "ba", "b", "abc", "ab", "a", ""}},
		{"A", []string{"\xff\xfe", "\xff", "a\x00", "ba", "b", "abc", "ab", "a", ""}},
		{strings.Repeat("a", 1<<17), []string{"\xff\xfe", "\xff", "a\x00", "ba", "b", "abc", "ab", "a", ""}},
	} {
		c := made(t, 9)
		putAll(t, c, all...)
		forgetIs(t, c, x.front, 9-len(x.left))
		keysAre(t, c, x.left...)
		statsAre(t, c, 0, 0)
		forgetIs(t, c, x.front, 0)
		for i, key := range all {
			if slices.Contains(x.left, key) {
				getIs(t, c, key, result(i+1))
			} else {
				getNone(t, c, key)
			}
		}
		statsAre(t, c, int64(len(x.left)), int64(9-len(x.left)))
		// What went makes room again.
		putAll(t, c, numbered(9-len(x.left), 1)...)
		if len(c.Keys()) != 9 {
			t.Errorf("P25.4: behind Forget(%q) there is room for %d", x.front, len(c.Keys()))
		}
		for i, key := range all {
			if slices.Contains(x.left, key) {
				getIs(t, c, key, result(i+1))
			}
		}
		forgetIs(t, c, "", 9)
	}
}

// TestForgetAnywhere: whichever of the row go, those that are left stay in their order, and the row goes on to be one.
func TestForgetAnywhere(t *testing.T) {
	const count = 6
	for mask := range 1 << count {
		c := made(t, count)
		var left []string
		for i := range count {
			key := fmt.Sprint("stay ", i)
			if mask>>i&1 == 1 {
				key = fmt.Sprint("go ", i)
			} else {
				left = append([]string{key}, left...)
			}
			putAll(t, c, key)
		}
		forgetIs(t, c, "go", count-len(left))
		keysAre(t, c, left...)
		putAll(t, c, "x", "y")
		behind := append([]string{"y", "x"}, left...)
		keysAre(t, c, behind[:min(count, len(behind))]...)
		if len(left) > 0 && len(left) <= count-2 {
			last := left[len(left)-1]
			getIs(t, c, last, result(1))
			keysAre(t, c, slices.Concat([]string{last, "y", "x"}, left[:len(left)-1])...)
		}
	}
}

func TestClear(t *testing.T) {
	c := made(t, 3)
	c.Clear()
	putAll(t, c, "a", "b", "c", "d")
	getIs(t, c, "b", result(2))
	getNone(t, c, "a")
	c.Clear()
	keysAre(t, c)
	statsAre(t, c, 1, 1)
	c.Clear()
	statsAre(t, c, 1, 1)
	forgetIs(t, c, "", 0)
	for _, key := range []string{"a", "b", "c", "d", ""} {
		getNone(t, c, key)
	}
	statsAre(t, c, 1, 6)
	putAll(t, c, "d", "c", "b")
	keysAre(t, c, "b", "c", "d")
	putAll(t, c, "a")
	keysAre(t, c, "a", "b", "c")
	getIs(t, c, "c", result(2))
	getNone(t, c, "d")
	keysAre(t, c, "c", "a", "b")
	statsAre(t, c, 2, 7)
	forgetIs(t, c, "", 3)
	c.Clear()
	keysAre(t, c)
	statsAre(t, c, 2, 7)
}

// TestAnyKeys: keys of any bytes are kept apart, though each is the front of another one or looks like it.
func TestAnyKeys(t *testing.T) {
	keys := []string{"", "\x00", "\x00\x00", "a", "a\x00", "A", "ä", "a\u0308", "\xc3", "\xa4", "\xff", "\xff\xff", "\xed\xa0\x80", "\ufffd", "é", "\n", " ", "  ", "name\x001\x00x", "name\x0011\x00x", "name\x001\x00"}
	for b := range 256 {
		keys = append(keys, string([]byte{byte(b), 7}), string([]byte{7, byte(b), 7, 0}))
	}
	for length := 1; length < 40; length++ {
		keys = append(keys, strings.Repeat("z", length))
	}
	c := made(t, len(keys))
	for i, key := range keys {
		putIs(t, c, key, result(i, int64(i)), api.OK)
	}
	for i, key := range keys {
		getIs(t, c, key, result(i, int64(i)))
	}
	slices.Reverse(keys)
	keysAre(t, c, keys...)
	statsAre(t, c, int64(len(keys)), 0)
}

// TestAnyResults: a Result may be any.
func TestAnyResults(t *testing.T) {
	many := make([]int64, 1<<20)
	for i := range many {
		many[i] = int64(i) * 0x123456789abcd
	}
	c := made(t, 9)
	for i, r := range []api.Result{
		{}, result(-1), result(0, 0), result(7, math.MinInt64, math.MaxInt64, 0, -1), {Logits: []int64{}, Arg: 3},
		result(math.MaxInt, 1), result(math.MinInt), {Logits: many, Arg: 12}, {Logits: many[5:5], Arg: 1}, {Logits: many[1:33]},
	} {
		key := fmt.Sprint(i % 3)
		putIs(t, c, key, r, api.OK)
		getIs(t, c, key, r)
		putIs(t, c, "the same", r, api.OK)
		getIs(t, c, "the same", r)
		getIs(t, c, key, r)
	}
}
