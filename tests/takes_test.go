package tests

import (
	"slices"
	"testing"

	"loop.example/g00684/impl"
)

func wantTake(t *testing.T, x impl.Source, task impl.Task, want impl.Source, at, code int) {
	t.Helper()
	if y, n, c := impl.TakeEvent(x, task); !equalSources(y, want) || n != at || c != code {
		t.Errorf("TakeEvent(%s, %v) = %s, %d, %d, want %s, %d, %d", brief(x), task, brief(y), n, c, brief(want), at, code)
	}
}

// checkTake compares with the rule and returns the code.
func checkTake(t *testing.T, x impl.Source, task impl.Task) int {
	t.Helper()
	switch {
	case !sourceByRule(x, task):
		wantTake(t, x, task, impl.Source{}, 0, impl.ErrBad)
		return impl.ErrBad
	case len(x.Queue) == 0:
		wantTake(t, x, task, x, 0, impl.ErrNone)
		return impl.ErrNone
	}
	wantTake(t, x, task, changedSource(x, func(y *impl.Source) { y.Queue = y.Queue[1:] }), x.Queue[0], impl.OK)
	return impl.OK
}

func TestTakeEvent(t *testing.T) {
	for _, v := range []struct {
		queue, rest []int
		at          int
	}{
		{[]int{50}, nil, 50}, {[]int{0}, nil, 0}, {[]int{20}, nil, 20},
		{[]int{20, 50}, []int{50}, 20}, {[]int{0, 1}, []int{1}, 0}, {[]int{0, 50}, []int{50}, 0}, {[]int{3, 4}, []int{4}, 3},
		{[]int{3, 4, 5}, []int{4, 5}, 3}, {[]int{0, 20, 50}, []int{20, 50}, 0},
		{[]int{3, 4, 5, 6}, []int{4, 5, 6}, 3}, {[]int{0, 10, 40, 50}, []int{10, 40, 50}, 0},
	} {
		// with a full queue and with room in it
		for n := len(v.queue); n <= 4; n++ {
			wantTake(t, sourceOf(50, v.queue...), queueTask(n), sourceOf(50, v.rest...), v.at, impl.OK)
			checkTake(t, sourceOf(50, v.queue...), queueTask(n))
		}
		if len(v.queue) > 1 {
			wantTake(t, sourceOf(50, v.queue...), queueTask(len(v.queue)-1), impl.Source{}, 0, impl.ErrBad)
		}
	}
	wantTake(t, sourceOf(50, 50), steadyTask(), sourceOf(50), 50, impl.OK)
	wantTake(t, sourceOf(largestValue, largestValue), queueTask(1), sourceOf(largestValue), largestValue, impl.OK)
}

// A queue is emptied one release after the other, in their order; Last and the counters stay.
func TestTakeAll(t *testing.T) {
	for n := range 5 {
		task := queueTask(max(n, 1))
		x := sourceOf(60, rising(n, 50)...)
		for i := range n {
			y, at, code := impl.TakeEvent(x, task)
			if want := sourceOf(60, rising(n, 50)[i+1:]...); at != 50+i || code != impl.OK || !equalSources(y, want) {
				t.Errorf("TakeEvent(%v) = %v, %d, %d", x, y, at, code)
			}
			x = y
		}
		wantTake(t, x, task, sourceOf(60), 0, impl.ErrNone)
	}
}

func TestTakeNone(t *testing.T) {
	most := impl.Source{Last: largestValue, Arrived: largestValue, Done: largestValue, Throttled: largestValue, Lost: largestValue, Dropped: largestValue}
	for _, x := range []impl.Source{impl.NewSource(), {}, {Queue: []int{}}, sourceOf(-1), sourceOf(0), sourceOf(50), most} {
		for _, task := range sourceTasks() {
			wantTake(t, x, task, x, 0, impl.ErrNone)
			checkTake(t, x, task)
		}
	}
}

func wantDrop(t *testing.T, x impl.Source, task impl.Task, running bool, want impl.Source, code int) {
	t.Helper()
	if y, c := impl.DropEvents(x, task, running); !equalSources(y, want) || c != code {
		t.Errorf("DropEvents(%s, %v, %t) = %s, %d, want %s, %d", brief(x), task, running, brief(y), c, brief(want), code)
	}
}

// checkDrop compares with the rule, with and without a running job.
func checkDrop(t *testing.T, x impl.Source, task impl.Task) {
	t.Helper()
	for _, running := range []bool{false, true} {
		if !sourceByRule(x, task) {
			wantDrop(t, x, task, running, impl.Source{}, impl.ErrBad)
			continue
		}
		wantDrop(t, x, task, running, changedSource(x, func(y *impl.Source) {
			y.Queue = nil
			for range len(x.Queue) + asBit(running) {
				y.Dropped = oneMore(y.Dropped)
			}
		}), impl.OK)
	}
}

func TestDropEvents(t *testing.T) {
	dropped := func(x impl.Source, n int) impl.Source {
		x.Dropped = n
		return x
	}
	for n := range 5 {
		task := queueTask(max(n, 1))
		x := sourceOf(60, rising(n, 50)...)
		wantDrop(t, x, task, false, dropped(sourceOf(60), 5+n), impl.OK)
		wantDrop(t, x, task, true, dropped(sourceOf(60), 6+n), impl.OK)
		wantDrop(t, dropped(x, 0), task, false, dropped(sourceOf(60), n), impl.OK)
		wantDrop(t, dropped(x, 0), task, true, dropped(sourceOf(60), n+1), impl.OK)
		checkDrop(t, x, task)
		checkDrop(t, x, queueTask(4))
		// at and near the limit
		for k := range 8 {
			y := dropped(x, largestValue-k)
			wantDrop(t, y, task, false, dropped(sourceOf(60), largestValue-max(k-n, 0)), impl.OK)
			wantDrop(t, y, task, true, dropped(sourceOf(60), largestValue-max(k-n-1, 0)), impl.OK)
			checkDrop(t, y, task)
		}
	}
	wantDrop(t, impl.NewSource(), steadyTask(), false, impl.NewSource(), impl.OK)
	wantDrop(t, impl.NewSource(), steadyTask(), true, impl.Source{Last: -1, Dropped: 1}, impl.OK)
	wantDrop(t, sourceOf(50, 50), steadyTask(), true, dropped(sourceOf(50), 7), impl.OK)
	wantDrop(t, sourceOf(largestValue, largestValue), queueTask(1), false, dropped(sourceOf(largestValue), 6), impl.OK)
}

func TestTakeAndDropOfSmallSources(t *testing.T) {
	seen := map[int]int{}
	for last := -1; last <= 4; last++ {
		eachQueue(4, 0, 4, func(queue []int) {
			for n := 1; n <= 4; n++ {
				x := sourceOf(last, queue...)
				seen[checkTake(t, x, queueTask(n))]++
				checkDrop(t, x, queueTask(n))
			}
		})
	}
	if seen[impl.OK] < 70 || seen[impl.ErrNone] != 24 || seen[impl.ErrBad] < 1000 {
		t.Error("the codes were seen", seen)
	}
}

func TestTakeAndDropOfEdgeSources(t *testing.T) {
	for _, x := range edgeSources() {
		for _, task := range append(sourceTasks(), impl.Task{}, queueTask(0), queueTask(5)) {
			checkTake(t, x, task)
			checkDrop(t, x, task)
		}
	}
}

// A dropped release leaves room; the last one still begins a period.
func TestOfferBehindDrop(t *testing.T) {
	for n := 1; n <= 4; n++ {
		x := sourceOf(60, rising(n, 50)...)
		wantLost(t, x, queueTask(n), 70)
		x, _ = impl.DropEvents(x, queueTask(n), false)
		wantThrottled(t, x, queueTask(n), 69)
		wantAccepted(t, x, queueTask(n), 70)
		wantTake(t, x, queueTask(n), x, 0, impl.ErrNone)
		if !slices.Equal(x.Queue, nil) || x.Dropped != 5+n {
			t.Error("DropEvents", x)
		}
	}
}
