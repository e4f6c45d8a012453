package cache_test

import (
	"fmt"
	"slices"
	"strings"
	"testing"

	"heddle/api"
	"heddle/cache"
)

// pair is a key with its Result.
type pair struct {
	key    string
	result api.Result
}

// plain is a cache of the test's own: a list, the one asked for last first.
type plain struct {
	room          int
	row           []pair
	found, missed int64
}

func (p *plain) place(key string) int {
	return slices.IndexFunc(p.row, func(one pair) bool { return one.key == key })
}

func (p *plain) lead(one pair) { p.row = slices.Insert(p.row, 0, one) }

func (p *plain) get(key string) (api.Result, bool) {
	i := p.place(key)
	if i < 0 {
		p.missed++
		return api.Result{}, false
	}
	p.found++
	one := p.row[i]
	p.row = slices.Delete(p.row, i, i+1)
	p.lead(one)
	return one.result, true
}

func (p *plain) put(key string, r api.Result) api.Errno {
	if len(key) > 65536 {
		return api.ErrLong
	}
	if i := p.place(key); i >= 0 {
		p.row = slices.Delete(p.row, i, i+1)
	}
	p.lead(pair{key, r})
	p.row = p.row[:min(p.room, len(p.row))]
	return api.OK
}

func (p *plain) forget(front string) int {
	before := len(p.row)
	p.row = slices.DeleteFunc(p.row, func(one pair) bool {
		return len(one.key) >= len(front) && one.key[:len(front)] == front
	})
	return before - len(p.row)
}

func (p *plain) keys() (keys []string) {
	for _, one := range p.row {
		keys = append(keys, one.key)
	}
	return keys
}

// both are a cache and the plain list that is told the same.
type both struct {
	t *testing.T
	c *cache.Cache
	p *plain
}

func bothOf(t *testing.T, room int) both {
	t.Helper()
	return both{t, made(t, room), &plain{room: room}}
}

func (b both) get(key string) {
	b.t.Helper()
	if r, ok := b.p.get(key); ok {
		getIs(b.t, b.c, key, r)
	} else {
		getNone(b.t, b.c, key)
	}
}

func (b both) put(key string, r api.Result) {
	b.t.Helper()
	putIs(b.t, b.c, key, r, b.p.put(key, r))
}

func (b both) forget(front string) {
	b.t.Helper()
	forgetIs(b.t, b.c, front, b.p.forget(front))
}

func (b both) clear() {
	b.c.Clear()
	b.p.row = nil
}

func (b both) look() {
	b.t.Helper()
	keysAre(b.t, b.c, b.p.keys()...)
	statsAre(b.t, b.c, b.p.found, b.p.missed)
}

// stop ends the test once something was told, and tells what was done up to then.
func (b both) stop(did ...string) {
	b.t.Helper()
	if b.t.Failed() {
		b.t.Fatalf("with room for %d: %s", b.p.room, strings.Join(did, ", "))
	}
}

// step is something that both are told; n is its place in what they are told.
type step struct {
	name string
	do   func(b both, n int)
}

func getStep(key string) step {
	return step{"Get " + short(key), func(b both, n int) { b.get(key) }}
}

func putStep(key string) step {
	return step{"Put " + short(key), func(b both, n int) { b.put(key, result(n, int64(n))) }}
}

func forgetStep(front string) step {
	return step{"Forget " + short(front), func(b both, n int) { b.forget(front) }}
}

func clearStep() step { return step{"Clear", func(b both, n int) { b.clear() }} }

// names are those of the steps.
func names(steps []step) (l []string) {
	for _, s := range steps {
		l = append(l, s.name)
	}
	return l
}

// sequences goes through all sequences of so many steps.
func sequences(length int, of []step, yield func(steps []step)) {
	steps := make([]step, length)
	var fill func(i int)
	fill = func(i int) {
		if i == length {
			yield(steps)
			return
		}
		for _, s := range of {
			steps[i] = s
			fill(i + 1)
		}
	}
	fill(0)
}

// TestAllShortSequences: every sequence of five steps out of eleven, in rooms of one to four.
func TestAllShortSequences(t *testing.T) {
	of := []step{putStep(""), putStep("a"), putStep("b"), putStep("ab"), getStep("a"), getStep("b"), getStep("ab"), forgetStep("a"), forgetStep("b"), forgetStep("ab"), clearStep()}
	for room := 1; room <= 4; room++ {
		sequences(5, of, func(steps []step) {
			b := bothOf(t, room)
			for n, s := range steps {
				s.do(b, n)
			}
			b.look()
			b.stop(names(steps)...)
		})
	}
}

// TestAllShortSequencesOfAFullCache: every sequence of five Puts and Gets, where four keys are there already.
func TestAllShortSequencesOfAFullCache(t *testing.T) {
	full := []step{putStep("a"), putStep("b"), putStep("c"), putStep("d")}
	of := []step{putStep("a"), putStep("b"), putStep("d"), putStep("e"), getStep("a"), getStep("b"), getStep("c"), forgetStep("c"), forgetStep("d")}
	for room := 2; room <= 4; room++ {
		sequences(5, of, func(steps []step) {
			b := bothOf(t, room)
			for n, s := range slices.Concat(full, steps) {
				s.do(b, n)
			}
			b.look()
			b.stop(names(slices.Concat(full, steps))...)
		})
	}
}

// dice are numbers that look like chance, always the same ones.
type dice uint64

func (d *dice) roll(below int) int {
	*d = *d*6364136223846793005 + 1442695040888963407
	return int(uint64(*d)>>33) % below
}

// key is one of up to so many bytes, each one of a few.
func (d *dice) key(length int) string {
	key := make([]byte, d.roll(length+1))
	for i := range key {
		key[i] = []byte{0, 'a', 'b', 255}[d.roll(4)]
	}
	return string(key)
}

// result is any.
func (d *dice) result() api.Result {
	r := api.Result{Arg: d.roll(1<<20) - 1<<19}
	for range d.roll(5) {
		r.Logits = append(r.Logits, int64(d.roll(1<<31))<<33-int64(d.roll(1<<31)))
	}
	return r
}

// step is any: mostly Gets and Puts of keys with up to so many bytes; Forgets and Clears if some may go so.
func (d *dice) step(length int, some bool) step {
	key, r := d.key(length), d.result()
	switch n := d.roll(200); {
	case n < 90:
		return getStep(key)
	case n == 199 && some:
		return clearStep()
	case n >= 190 && some:
		return forgetStep(key + "a")
	case n == 189:
		return step{"Put of a long key", func(b both, _ int) { b.put(key+strings.Repeat("a", 65537), r) }}
	default:
		return step{"Put " + short(key), func(b both, _ int) { b.put(key, r) }}
	}
}

// TestLongSequences: any steps, looked at behind each one of them.
func TestLongSequences(t *testing.T) {
	d := dice(25)
	for _, room := range []int{1, 2, 3, 5, 8, 20, 90} {
		for _, length := range []int{1, 2, 3, 4} {
			b := bothOf(t, room)
			for n := range 1500 {
				s := d.step(length, true)
				s.do(b, n)
				b.look()
				b.stop(fmt.Sprintf("the step %d: %s", n, s.name))
			}
		}
	}
}

// TestGreatRooms: any steps over many keys, looked at from time to time.
func TestGreatRooms(t *testing.T) {
	d := dice(26)
	for _, room := range []int{300, 4095, 4096} {
		b := bothOf(t, room)
		for n := range 20000 {
			s := d.step(8, false)
			if n%5000 == 4999 {
				s = forgetStep(d.key(2))
			}
			s.do(b, n)
			if n%500 == 499 {
				b.look()
			}
			b.stop(fmt.Sprintf("the step %d: %s", n, s.name))
		}
		b.clear()
		b.look()
	}
}

// askedLast are the keys that were asked for last, each once, as many as there is room for; asked is in the order of the asking.
func askedLast(asked []string, room int) (keys []string) {
	for i := len(asked) - 1; i >= 0 && len(keys) < room; i-- {
		if !slices.Contains(keys, asked[i]) {
			keys = append(keys, asked[i])
		}
	}
	return keys
}

// TestAskedForLast: as long as nothing was let go otherwise, the entries are those of the keys that were asked for last, each with the Result of its last Put.
func TestAskedForLast(t *testing.T) {
	d := dice(27)
	for _, room := range []int{1, 2, 3, 4, 7, 12, 30} {
		c := made(t, room)
		var asked []string
		put := map[string]api.Result{}
		found := int64(0)
		for n := range 3000 {
			key := d.key(2)
			if d.roll(2) == 0 {
				put[key] = d.result()
				putIs(t, c, key, put[key], api.OK)
				asked = append(asked, key)
			} else if slices.Contains(askedLast(asked, room), key) {
				getIs(t, c, key, put[key])
				asked = append(asked, key)
				found++
			} else {
				getNone(t, c, key)
			}
			if n%3 == 0 {
				keysAre(t, c, askedLast(asked, room)...)
			}
			if t.Failed() {
				t.Fatalf("P25.7: with room for %d, at the step %d of key %q", room, n, key)
			}
		}
		if a, _ := c.Stats(); a != found {
			t.Errorf("P25.7: %d keys found, not %d", a, found)
		}
	}
}

// TestTwoCaches: what one is told is nothing to another one beside it.
func TestTwoCaches(t *testing.T) {
	d := dice(28)
	all := []both{bothOf(t, 3), bothOf(t, 3), bothOf(t, 5), bothOf(t, 1)}
	for n := range 4000 {
		s := d.step(2, true)
		s.do(all[d.roll(len(all))], n)
		for i, b := range all {
			b.look()
			b.stop(fmt.Sprintf("P25.8: the cache %d of several, behind the step %d: %s", i, n, s.name))
		}
	}
}
