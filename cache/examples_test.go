package cache_test

import (
	"strings"
	"testing"

	"heddle/api"
	"heddle/cache"
)

// TestExamples: the chapter's.
func TestExamples(t *testing.T) {
	c := made(t, 2)
	getNone(t, c, "a")
	keysAre(t, c)
	putIs(t, c, "a", result(1), api.OK)
	putIs(t, c, "b", result(2), api.OK)
	keysAre(t, c, "b", "a")
	getIs(t, c, "a", result(1))
	keysAre(t, c, "a", "b")
	putIs(t, c, "ab", result(3), api.OK)
	keysAre(t, c, "ab", "a")
	getNone(t, c, "b")
	statsAre(t, c, 1, 2)
	keysAre(t, c, "ab", "a")
	putIs(t, c, "a", result(4), api.OK)
	getIs(t, c, "a", result(4))
	keysAre(t, c, "a", "ab")
	forgetIs(t, c, "a", 2)
	keysAre(t, c)
	putIs(t, c, "", result(5), api.OK)
	putIs(t, c, "x", result(6), api.OK)
	forgetIs(t, c, "", 2)
	keysAre(t, c)
	putIs(t, c, strings.Repeat("x", 65537), result(7), api.ErrLong)
	keysAre(t, c)
	for _, room := range []int{0, 4097} {
		if none, e := cache.New(room); none != nil || e != api.ErrArg {
			t.Errorf("P25.1: New(%d) = %v, %d, not ErrArg", room, none, e)
		}
	}
	c.Clear()
	statsAre(t, c, 2, 2)
	keysAre(t, c)
}
