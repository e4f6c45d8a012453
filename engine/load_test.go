package engine_test

import (
	"runtime"
	"slices"
	"testing"

	"heddle/api"
	"heddle/arena"
	"heddle/chunk"
	"heddle/engine"
	"heddle/packed"
	"heddle/source"
)

// magic is a packed model's, as the document tells it.
const magic = 0x706c6468

// unloaded: Load answers this error, which is packed.Decode's, and no engine.
func unloaded(t *testing.T, what string, b []byte, e api.Errno) {
	t.Helper()
	if g, got := engine.Load(b); g != nil || got != e {
		t.Errorf("P22.1: %s: Load = %v, %d, not %d", what, g, got, e)
	}
	if _, told := packed.Decode(b); told != e {
		t.Errorf("P22.1: %s: packed.Decode answers %d, not %d", what, told, e)
	}
}

// container is chunks as bytes.
func container(t *testing.T, magic uint32, chunks ...api.Chunk) []byte {
	t.Helper()
	b, e := chunk.Write(magic, chunks...)
	if e != api.OK {
		t.Fatalf("the test's own chunks: %d", e)
	}
	return b
}

// chunksOf are those of a model's bytes.
func chunksOf(t *testing.T, b []byte) []api.Chunk {
	t.Helper()
	chunks, e := chunk.Read(magic, b)
	if e != api.OK {
		t.Fatalf("the test's own bytes: %d", e)
	}
	return chunks
}

// TestLoadOfNoModel: bytes of all sorts that are no model.
func TestLoadOfNoModel(t *testing.T) {
	b := bytesOf(t, mixed())
	src, _ := source.Encode(mixed())
	chunks := chunksOf(t, b)
	unloaded(t, "nil", nil, api.ErrShort)
	unloaded(t, "no bytes", []byte{}, api.ErrShort)
	unloaded(t, "eleven bytes", make([]byte, 11), api.ErrShort)
	unloaded(t, "twelve bytes of 0", make([]byte, 12), api.ErrSum)
	unloaded(t, "a text", []byte("net tiny\ninput 1 1 3\n"), api.ErrSum)
	unloaded(t, "a source", src, api.ErrTag)
	unloaded(t, "another magic", container(t, magic+1, chunks...), api.ErrTag)
	unloaded(t, "a byte more", append(slices.Clone(b), 0), api.ErrTag)
	unloaded(t, "a model twice", append(slices.Clone(b), b...), api.ErrTag)
	unloaded(t, "2^24 bytes of 0", make([]byte, 1<<24), api.ErrSum)
	unloaded(t, "2^24 + 1 bytes", make([]byte, 1<<24+1), api.ErrLong)
	unloaded(t, "a model and too many bytes", append(slices.Clone(b), make([]byte, 1<<24)...), api.ErrLong)
	unloaded(t, "no chunks", container(t, magic), api.ErrPacked)
	for i := range chunks {
		unloaded(t, "a chunk less", container(t, magic, slices.Delete(slices.Clone(chunks), i, i+1)...), api.ErrPacked)
		unloaded(t, "a chunk twice", container(t, magic, slices.Insert(slices.Clone(chunks), i, chunks[i])...), api.ErrPacked)
		if i > 0 {
			turned := slices.Clone(chunks)
			turned[i-1], turned[i] = turned[i], turned[i-1]
			unloaded(t, "two chunks exchanged", container(t, magic, turned...), api.ErrPacked)
		}
	}
}

// TestLoadOfDamage: each byte another one, each front, each two neighbours exchanged.
func TestLoadOfDamage(t *testing.T) {
	for _, n := range []api.Net{tiny(5, -5), edgePool(1, from(3)), mixed()} {
		b := bytesOf(t, n)
		for i := range b {
			for bit := range 8 {
				turned := slices.Clone(b)
				turned[i] ^= 1 << bit
				unloaded(t, "a byte turned", turned, api.ErrSum)
			}
			unloaded(t, "cut off", b[:i], api.ErrShort)
			if i > 0 && b[i-1] != b[i] {
				turned := slices.Clone(b)
				turned[i-1], turned[i] = turned[i], turned[i-1]
				unloaded(t, "two bytes exchanged", turned, api.ErrSum)
			}
		}
	}
}

// TestLoadOfWhatMayNotBe: chunks with right sums, whose layers may not be.
func TestLoadOfWhatMayNotBe(t *testing.T) {
	chunks := chunksOf(t, bytesOf(t, tiny(5, -5)))
	for what, do := range map[string]func(l []api.Chunk){
		"a name with a blank":    func(l []api.Chunk) { l[0].Body[1] = ' ' },
		"no channels":            func(l []api.Chunk) { l[0].Body[9] = 0 },
		"two layers, one there":  func(l []api.Chunk) { l[0].Body[11] = 2 },
		"no layers":              func(l []api.Chunk) { l[0].Body[11] = 0 },
		"a Kind":                 func(l []api.Chunk) { l[1].Body[0] = 4 },
		"an LPool":               func(l []api.Chunk) { l[1].Body[0] = 3 },
		"Binary with a weight 0": func(l []api.Chunk) { l[1].Body[1] = 1 },
		"an output more":         func(l []api.Chunk) { l[1].Body[2] = 3 },
		"a weight 2":             func(l []api.Chunk) { l[2].Body[0] = 0x93 },
		"a bit left over":        func(l []api.Chunk) { l[2].Body[1] = 0x1f },
		"weights too short":      func(l []api.Chunk) { l[2].Body = l[2].Body[:1] },
		"a bias too great":       func(l []api.Chunk) { l[3].Body[7] = 1 },
	} {
		l := slices.Clone(chunks)
		for i := range l {
			l[i].Body = slices.Clone(l[i].Body)
		}
		do(l)
		unloaded(t, what, container(t, magic, l...), api.ErrPacked)
	}
}

// TestLoadsEngine: the engine has the model that packed.Decode reads, and the plan that arena.Make makes of it.
func TestLoadsEngine(t *testing.T) {
	d := dice(221)
	for _, n := range d.networks(60) {
		b := bytesOf(t, n)
		g := ready(t, b)
		m, e := packed.Decode(b)
		if e != api.OK || !sameModel(g.Model(), m) {
			t.Errorf("P22.1, P22.5: the model is %s, not %s, %d", show(g.Model()), show(m), e)
		}
		p, e := arena.Make(m)
		if e != api.OK || !samePlan(g.Plan(), p) {
			t.Errorf("P22.1, P22.5: the plan is %+v, not %+v, %d", g.Plan(), p, e)
		}
	}
	// Worked out by hand: the outputs of mixed have 25, 8, 1, 6, 4 and 0 words.
	want := api.Plan{Ways: []int{1, 0, 0, 1, 1, 0}, Slots: []api.Slot{{Size: 25}, {At: 25, Size: 8}, {Size: 1}, {At: 27, Size: 6}, {Size: 4}, {}}, Words: 33}
	if p := load(t, mixed()).Plan(); !samePlan(p, want) {
		t.Errorf("P22.1: the plan of mixed is %+v", p)
	}
	if p := load(t, tiny(5, -5)).Plan(); !samePlan(p, api.Plan{Ways: []int{0}, Slots: []api.Slot{{}}}) {
		t.Errorf("P22.1: the plan of tiny is %+v", p)
	}
}

// great is a network with the greatest input and outputs that may be, and few weights.
func great() api.Net {
	return network(of(4096, 4096, 1), conv(point(), 0, []int8{1}, from(0)), conv(point(), 0, []int8{1}, from(0)),
		pool(win(15, 15, 15, 15, 0, 0, 0, 0)), pool(win(15, 15, 15, 15, 0, 0, 0, 0)), last(turns(18*18, 1), 0))
}

// taken is how many bytes of memory a call asks for.
func taken(call func()) uint64 {
	var before, behind runtime.MemStats
	runtime.ReadMemStats(&before)
	call()
	runtime.ReadMemStats(&behind)
	return behind.TotalAlloc - before.TotalAlloc
}

// TestLoadsMemory: what Load asks for goes with the bytes, however large outputs and arena are; so does what With asks for.
func TestLoadsMemory(t *testing.T) {
	b := bytesOf(t, great())
	var g *engine.Engine
	if size := taken(func() { g = ready(t, b) }); size > 1<<17 {
		t.Errorf("P22.1: Load of %d bytes takes %d bytes", len(b), size)
	}
	if words := g.Plan().Words; words != 1<<25 {
		t.Errorf("P22.1: the plan has %d words", words)
	}
	p := g.Plan()
	p.Words = maxWords
	if size := taken(func() { with(t, g, p) }); size > 1<<17 {
		t.Errorf("P22.1, P22.2: With takes %d bytes", size)
	}
	// Of a model with many weights: rows of bits, in two words for each weight at most.
	wide := network(of(1, 1, 1), conv(win(15, 15, 1, 1, 14, 14, 14, 14), 1, turns(225*1000, 1, -1), zeros(1000)...), pool(win(15, 15, 15, 15, 0, 0, 0, 0)), last(turns(1000, 1), 0))
	b = bytesOf(t, wide)
	if size := taken(func() { ready(t, b) }); size > 200*uint64(len(b)) {
		t.Errorf("P22.1: Load of %d bytes takes %d bytes", len(b), size)
	}
}
