package cache

import (
	"sync/atomic"
	"testing"
	"time"

	"heddle/api"
)

// calls are all of a cache, by their names.
func calls(c *Cache) map[string]func() {
	return map[string]func(){
		"Get":          func() { c.Get([]byte("a")) },
		"Get of none":  func() { c.Get([]byte("none")) },
		"Put":          func() { c.Put([]byte("a"), api.Result{}) },
		"Put of a new": func() { c.Put([]byte("new"), api.Result{}) },
		"Forget":       func() { c.Forget([]byte("x")) },
		"Keys":         func() { c.Keys() },
		"Stats":        func() { c.Stats() },
		"Clear":        func() { c.Clear() },
	}
}

// TestEachCallAlone: a call waits for the mutex, and gives it back.
func TestEachCallAlone(t *testing.T) {
	c, _ := New(2)
	c.Put([]byte("a"), api.Result{})
	for name, call := range calls(c) {
		c.mutex.Lock()
		answered := atomic.Bool{}
		done := make(chan struct{})
		go func() {
			defer close(done)
			call()
			answered.Store(true)
		}()
		// One that does not wait has answered long before this; one that does has not, however long it is.
		time.Sleep(10 * time.Millisecond)
		if answered.Load() {
			t.Errorf("%s does not wait for the mutex", name)
		}
		c.mutex.Unlock()
		<-done
		if !c.mutex.TryLock() {
			t.Fatalf("%s does not give the mutex back", name)
		}
		c.mutex.Unlock()
	}
	// A Put that is refused gives it back too.
	if e := c.Put(make([]byte, api.MaxKey+1), api.Result{}); e != api.ErrLong || !c.mutex.TryLock() {
		t.Fatalf("a Put that is refused: %d", e)
	}
}
