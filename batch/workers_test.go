package batch_test

import (
	"runtime"
	"strings"
	"sync"
	"testing"
	"time"

	"heddle/api"
)

// goroutines are what all goroutines but the asking one are at, a text each.
func goroutines() []string {
	text := make([]byte, 1<<20)
	text = text[:runtime.Stack(text, true)]
	return strings.Split(string(text), "\n\n")[1:]
}

// at counts the goroutines that are somewhere in what is named so, or were made by it.
func at(name string) (count int) {
	for _, g := range goroutines() {
		if strings.Contains(g, name) {
			count++
		}
	}
	return count
}

const inARun = "heddle/engine.(*Engine).Run("

// someInputs are inputs of a size, each fifteenth or so of a wrong one, if there are to be faults.
func someInputs(d *dice, count, size int, faults bool) (inputs [][]byte) {
	for range count {
		x := d.input(size)
		if faults && d.roll(1, 15) == 1 {
			x = x[1:]
		}
		inputs = append(inputs, x)
	}
	return inputs
}

// TestAnyWorkers: all numbers of workers answer the same, many times over.
func TestAnyWorkers(t *testing.T) {
	d := dice(4)
	for _, n := range []api.Net{tiny(), deep(6)} {
		b, size := bytesOf(t, n), n.In.H*n.In.W*n.In.C
		for round := range 4 {
			inputs := someInputs(&d, d.roll(1, 50), size, round > 0)
			for _, c := range both() {
				want := wanted(t, b, c.name == "Run", inputs...)
				for workers := 1; workers <= mostWorkers; workers++ {
					for range 5 {
						if got := answerOf(c.ask, b, workers, inputs...); !got.same(want) {
							t.Fatalf("P23.4: %s, %s with %d workers = %s, not %s", n.Name, c.name, workers, show(got), show(want))
						}
					}
				}
			}
		}
	}
}

// TestManyTimesOver: slow inputs ahead of faults that are told at once.
func TestManyTimesOver(t *testing.T) {
	d := dice(5)
	n := deep(24)
	b, size := bytesOf(t, n), 24*24*2
	inputs := someInputs(&d, 20, size, false)
	inputs[9], inputs[12], inputs[13], inputs[19] = nil, inputs[12][1:], nil, nil
	for _, c := range both() {
		want := wanted(t, b, c.name == "Run", inputs...)
		for round := range 60 {
			workers := 1 + round%mostWorkers
			if got := answerOf(c.ask, b, workers, inputs...); !got.same(want) {
				t.Fatalf("P23.3, P23.4: %s with %d workers = %s, not %s", c.name, workers, show(got), show(want))
			}
		}
	}
}

// TestNeverMoreThanWorkers looks at what goroutines are at while a call is under way: never are more runs of the engine, nor goroutines of the call's own.
func TestNeverMoreThanWorkers(t *testing.T) {
	d := dice(6)
	b, size := bytesOf(t, deep(24)), 24*24*2
	inputs := someInputs(&d, 40, size, false)
	for _, c := range both() {
		for _, workers := range []int{1, 2, 3, 5} {
			answered := make(chan struct{})
			go func() {
				defer close(answered)
				if a := answerOf(c.ask, b, workers, inputs...); a.err != api.OK {
					t.Errorf("P23.1: %s with %d workers = %s", c.name, workers, show(a))
				}
			}()
			most, looks := 0, 0
			for under := true; under; looks++ {
				select {
				case <-answered:
					under = false
				default:
					most = max(most, at(inARun))
				}
			}
			if most > workers || most == 0 {
				t.Errorf("P23.4: %s with %d workers: %d runs at a time, in %d looks", c.name, workers, most, looks)
			}
		}
	}
}

// TestAllHaveEnded: when a call answers no run is under way, and its goroutines are gone.
func TestAllHaveEnded(t *testing.T) {
	d := dice(7)
	b, size := bytesOf(t, deep(24)), 24*24*2
	for fault := range 12 {
		inputs := someInputs(&d, 12, size, false)
		inputs[fault] = nil
		for _, workers := range []int{1, 4, 64} {
			for _, c := range both() {
				a := answerOf(c.ask, b, workers, inputs...)
				if running := at(inARun); running != 0 {
					t.Errorf("P23.4: %s with %d workers answers %s while %d inputs are run", c.name, workers, show(a), running)
				}
			}
		}
	}
	// A goroutine that has said that it is at its end may need a moment to be gone.
	for range 1000 {
		if at("heddle/batch.") == 0 {
			return
		}
		time.Sleep(time.Millisecond)
	}
	t.Errorf("P23.4: %d goroutines are left: %v", at("heddle/batch."), goroutines())
}

// TestAtTheSameTime: calls from several goroutines, with the same bytes and the same inputs.
func TestAtTheSameTime(t *testing.T) {
	d := dice(8)
	n := deep(6)
	b, size := bytesOf(t, n), 72
	lists := [][][]byte{someInputs(&d, 30, size, false), someInputs(&d, 30, size, true), someInputs(&d, 7, size, true), nil}
	var group sync.WaitGroup
	for asker := range 12 {
		group.Go(func() {
			for i := range 20 {
				inputs := lists[(asker+i)%len(lists)]
				for _, c := range both() {
					got, want := answerOf(c.ask, b, 1+(asker*7+i)%mostWorkers, inputs...), wanted(t, b, c.name == "Run", inputs...)
					if !got.same(want) {
						t.Errorf("P0.5: beside others: %s = %s, not %s", c.name, show(got), show(want))
					}
				}
			}
		})
	}
	group.Wait()
}
