package batch

import (
	"fmt"
	"slices"
	"sync"
	"testing"
	"testing/synctest"
	"time"

	"heddle/api"
)

// play is a runner that stands for a model. An input is one byte, its number; how long each one takes is set beforehand, in the time of a synctest bubble, so that each test plays one order of goroutines.
type play struct {
	lasts   map[byte]time.Duration // of an input that is not named: a second
	refused map[byte]bool

	mutex   sync.Mutex
	begun   []byte
	running int
	most    int // that were running at a time
}

// The faults of a play differ, so that none can be taken for another one's.
func faultOf(number byte) api.Errno { return 1000 + api.Errno(number) }

func resultOf(number byte) api.Result {
	return api.Result{Logits: []int64{int64(number), -7}, Arg: int(number)}
}

func (p *play) enter(number byte) {
	p.mutex.Lock()
	defer p.mutex.Unlock()
	p.begun = append(p.begun, number)
	p.running++
	p.most = max(p.most, p.running)
}

func (p *play) leave() {
	p.mutex.Lock()
	defer p.mutex.Unlock()
	p.running--
}

func (p *play) run(x []byte) (api.Result, api.Errno) {
	number := x[0]
	p.enter(number)
	defer p.leave()
	last, named := p.lasts[number]
	if !named {
		last = time.Second
	}
	time.Sleep(last)
	if p.refused[number] {
		return api.Result{}, faultOf(number)
	}
	return resultOf(number), api.OK
}

func numbered(count int) (inputs [][]byte) {
	for i := range count {
		inputs = append(inputs, []byte{byte(i)})
	}
	return inputs
}

// refuse is a set of inputs.
func refuse(numbers ...byte) map[byte]bool {
	set := map[byte]bool{}
	for _, n := range numbers {
		set[n] = true
	}
	return set
}

// wanted tells what a call answers, one input behind the other.
func wanted(count int, refused map[byte]bool, early bool) (results []api.Result, errs []api.Errno) {
	fault := false
	for i := range count {
		r, e := resultOf(byte(i)), api.OK
		if refused[byte(i)] {
			r, e = api.Result{}, faultOf(byte(i))
		}
		if fault && early {
			r, e = api.Result{}, api.ErrCancel
		}
		fault = fault || e != api.OK
		results, errs = append(results, r), append(errs, e)
	}
	return results, errs
}

func same(a, b api.Result) bool { return a.Arg == b.Arg && slices.Equal(a.Logits, b.Logits) }

// plays: a crew answers what one input behind the other does, never runs more inputs at a time than it has workers, and leaves nothing running. (A goroutine that never ends makes the bubble fail.)
func plays(t *testing.T, what string, p *play, count, workers int, early bool) (took time.Duration) {
	t.Helper()
	synctest.Test(t, func(t *testing.T) {
		start := time.Now()
		results, errs := newCrew(p.run, numbered(count), early).answers(workers)
		took = time.Since(start)
		p.mutex.Lock()
		defer p.mutex.Unlock()
		if p.running != 0 {
			t.Errorf("P23.4: %s: %d inputs are run behind the answer", what, p.running)
		}
		if p.most > workers {
			t.Errorf("P23.4: %s: %d inputs at a time with %d workers", what, p.most, workers)
		}
		wantResults, wantErrs := wanted(count, p.refused, early)
		if !slices.Equal(errs, wantErrs) || !slices.EqualFunc(results, wantResults, same) {
			t.Errorf("P23.2, P23.3: %s: %d workers, early %v: %v, %v, not %v, %v", what, workers, early, results, errs, wantResults, wantErrs)
		}
	})
	return took
}

// TestLaterFaultIsSooner: two inputs are refused, and the later one is known long ahead of the earlier one, and the other way round.
func TestLaterFaultIsSooner(t *testing.T) {
	const count = 9
	for _, workers := range []int{1, 2, 3, 5, 8, 9, 64} {
		for later := byte(1); later < count; later++ {
			for earlier := range later {
				for _, early := range []bool{true, false} {
					what := fmt.Sprintf("%d refused at once, %d late", later, earlier)
					plays(t, what, &play{lasts: map[byte]time.Duration{later: 0, earlier: time.Hour}, refused: refuse(earlier, later)}, count, workers, early)
					what = fmt.Sprintf("%d refused at once, %d late", earlier, later)
					plays(t, what, &play{lasts: map[byte]time.Duration{earlier: 0, later: time.Hour}, refused: refuse(earlier, later)}, count, workers, early)
				}
			}
		}
	}
}

// TestAllAheadOfAFaultAreAnswered: a fault is known at once, all that lies ahead of it takes long.
func TestAllAheadOfAFaultAreAnswered(t *testing.T) {
	const count = 12
	for _, workers := range []int{1, 2, 3, 7, 12, 64} {
		for fault := byte(0); fault < count; fault++ {
			lasts := map[byte]time.Duration{}
			for i := range fault {
				lasts[i] = time.Duration(fault-i) * time.Hour // the first one longest
			}
			lasts[fault] = 0
			plays(t, fmt.Sprintf("%d refused at once", fault), &play{lasts: lasts, refused: refuse(fault)}, count, workers, true)
			plays(t, fmt.Sprintf("%d and all behind it refused at once", fault), &play{lasts: lasts, refused: refuse([]byte{0, 1, 2, 3, 4, 5, 6, 7, 8, 9, 10, 11}[fault:]...)}, count, workers, true)
		}
	}
}

// TestBehindAFaultNothingIsBegun: three of four workers are busy when the fourth one meets a fault; so nothing of what is left is run any more.
func TestBehindAFaultNothingIsBegun(t *testing.T) {
	p := &play{lasts: map[byte]time.Duration{3: time.Millisecond}, refused: refuse(3)}
	took := plays(t, "3 refused soon", p, 200, 4, true)
	slices.Sort(p.begun)
	if !slices.Equal(p.begun, []byte{0, 1, 2, 3}) || took != time.Second {
		t.Errorf("P23.3: behind a fault: begun %v, in %v", p.begun, took)
	}
	// One worker runs nothing at all behind a fault, however soon that is met.
	for range 500 {
		p = &play{lasts: map[byte]time.Duration{0: 0, 1: 0}, refused: refuse(1)}
		plays(t, "1 refused at once", p, 200, 1, true)
		if !slices.Equal(p.begun, []byte{0, 1}) {
			t.Fatalf("P23.3: one worker, behind a fault: begun %v", p.begun)
		}
	}
}

// TestAllGoesOn: faults end no call of All; each input is run once.
func TestAllGoesOn(t *testing.T) {
	for _, workers := range []int{1, 2, 10, 64} {
		p := &play{refused: refuse(0, 1, 2, 5, 99)}
		plays(t, "some refused", p, 100, workers, false)
		slices.Sort(p.begun)
		if len(p.begun) != 100 || len(slices.Compact(p.begun)) != 100 {
			t.Errorf("P23.2: %d workers: begun %v", workers, p.begun)
		}
		everyone := &play{refused: map[byte]bool{}}
		for i := range 100 {
			everyone.refused[byte(i)] = true
		}
		plays(t, "all refused", everyone, 100, workers, false)
	}
}

// TestWhatIsBegunEndsAheadOfTheAnswer: behind a fault an input takes long, and the answer awaits it.
func TestWhatIsBegunEndsAheadOfTheAnswer(t *testing.T) {
	p := &play{lasts: map[byte]time.Duration{0: time.Millisecond, 1: time.Hour, 2: time.Hour}, refused: refuse(0)}
	if took := plays(t, "1 and 2 last long", p, 3, 3, true); took != time.Hour {
		t.Errorf("P23.4: the answer is there after %v", took)
	}
}

// TestAsManyAtATimeAsWorkers: no more inputs are run at a time than workers; and so many are, if there are as many inputs.
func TestAsManyAtATimeAsWorkers(t *testing.T) {
	for _, workers := range []int{1, 2, 3, 4, 7, 16, 63, 64} {
		for _, count := range []int{0, 1, 2, 3, 5, 64, 65, 256} {
			for _, early := range []bool{true, false} {
				p := &play{lasts: map[byte]time.Duration{}}
				for i := range count {
					p.lasts[byte(i)] = time.Duration(1+i*i%7) * time.Second
				}
				plays(t, fmt.Sprintf("%d inputs", count), p, count, workers, early)
				if p.most != min(workers, count) {
					t.Errorf("P23.4: %d workers, %d inputs: %d at a time", workers, count, p.most)
				}
				if slices.Sort(p.begun); len(p.begun) != count || len(slices.Compact(p.begun)) != count {
					t.Errorf("P23.2: %d workers, %d inputs: begun %v", workers, count, p.begun)
				}
			}
		}
	}
}

// TestOrdersOfGoroutines: many orders in which inputs come to their ends, with faults of all kinds among them.
func TestOrdersOfGoroutines(t *testing.T) {
	state := uint32(23)
	roll := func(below int) int {
		state = state*1664525 + 1013904223
		return int(state>>16) % below
	}
	for range 600 {
		p := &play{lasts: map[byte]time.Duration{}, refused: map[byte]bool{}}
		count := 1 + roll(40)
		for i := range count {
			p.lasts[byte(i)] = time.Duration(roll(5)) * time.Second // many come to their ends at the same time
			if roll(12) == 0 {
				p.refused[byte(i)] = true
			}
		}
		plays(t, "an order", p, count, 1+roll(64), roll(3) > 0)
	}
}
