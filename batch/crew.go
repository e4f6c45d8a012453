package batch

import (
	"slices"
	"sync"

	"heddle/api"
)

// runner answers an input.
type runner func(x []byte) (api.Result, api.Errno)

// answer is what a runner told of the input with that number.
type answer struct {
	number int
	result api.Result
	err    api.Errno
}

// crew is what the goroutines of one call have in common.
type crew struct {
	run     runner
	inputs  [][]byte
	early   bool          // whether the first fault cancels what lies behind it
	numbers chan int      // of the inputs, in their order
	told    chan answer   // with room for all, so that whoever has one need not wait
	done    chan struct{} // closed at the first fault, if that ends the call early
	fault   sync.Once     // as several may meet one
}

func newCrew(run runner, inputs [][]byte, early bool) *crew {
	return &crew{
		run:     run,
		inputs:  inputs,
		early:   early,
		numbers: make(chan int),
		told:    make(chan answer, len(inputs)),
		done:    make(chan struct{}),
	}
}

// answers tells each input's answer and error. At most workers of them are run at a time.
func (c *crew) answers(workers int) ([]api.Result, []api.Errno) {
	var group sync.WaitGroup
	for range min(workers, len(c.inputs)) {
		group.Go(c.work)
	}
	c.handOut()
	group.Wait()
	close(c.told)
	results, errs := c.collect()
	if c.early {
		cancel(results, errs)
	}
	return results, errs
}

// handOut hands out the inputs' numbers, all of them or until the call ends early. As they go out in their order, whatever lies ahead of a fault was begun before the fault was met.
func (c *crew) handOut() {
	defer close(c.numbers)
	for i := range c.inputs {
		select {
		case c.numbers <- i:
		case <-c.done:
			return
		}
	}
}

// work runs inputs while their numbers are handed out. What was begun is brought to its end even if another goroutine meets a fault meanwhile: it may lie ahead of that.
func (c *crew) work() {
	for i := range c.numbers {
		result, err := c.run(c.inputs[i])
		c.told <- answer{number: i, result: result, err: err}
		if c.early && err != api.OK {
			c.fault.Do(func() { close(c.done) })
			return
		}
	}
}

// collect puts what was told in the inputs' order. An input that was not begun has no answer and no error: it lies behind a fault.
func (c *crew) collect() ([]api.Result, []api.Errno) {
	results := make([]api.Result, len(c.inputs))
	errs := make([]api.Errno, len(c.inputs))
	for a := range c.told {
		results[a.number], errs[a.number] = a.result, a.err
	}
	return results, errs
}

// cancel throws away what was told of the inputs behind the first one that was refused.
func cancel(results []api.Result, errs []api.Errno) {
	first := slices.IndexFunc(errs, func(e api.Errno) bool { return e != api.OK })
	if first < 0 {
		return
	}
	for i := first + 1; i < len(errs); i++ {
		results[i], errs[i] = api.Result{}, api.ErrCancel
	}
}
