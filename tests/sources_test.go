package tests

import (
	"fmt"
	"math"
	"slices"
	"testing"

	"loop.example/g00684/impl"
)

// sourceOf returns a source whose counters are all different and not 0.
func sourceOf(last int, queue ...int) impl.Source {
	return impl.Source{Last: last, Arrived: 99, Done: 31, Throttled: 17, Lost: 11, Dropped: 5, Queue: queue}
}

// sourceFields returns the fields but Queue in their order; all but the first are counters.
func sourceFields(x *impl.Source) []*int {
	return []*int{&x.Last, &x.Arrived, &x.Done, &x.Throttled, &x.Lost, &x.Dropped}
}

func copyOfSource(x impl.Source) impl.Source {
	x.Queue = append([]int{}, x.Queue...)
	return x
}

func changedSource(x impl.Source, change func(*impl.Source)) impl.Source {
	x = copyOfSource(x)
	change(&x)
	return x
}

func equalSources(a, b impl.Source) bool {
	for i, n := range sourceFields(&a) {
		if *n != *sourceFields(&b)[i] {
			return false
		}
	}
	return slices.Equal(a.Queue, b.Queue)
}

func isZeroSource(x impl.Source) bool {
	return equalSources(x, impl.Source{})
}

// sourceByRule is the reference for SourceOK.
func sourceByRule(x impl.Source, task impl.Task) bool {
	if !taskByRule(task) || x.Last < -1 || x.Last > largestValue || len(x.Queue) > task.Queue {
		return false
	}
	for _, n := range sourceFields(&x)[1:] {
		if *n < 0 || *n > largestValue {
			return false
		}
	}
	for i, at := range x.Queue {
		if at < 0 || at > x.Last || i > 0 && x.Queue[i-1] >= at {
			return false
		}
	}
	return true
}

// queueTask is a valid task whose queue has that many elements.
func queueTask(queue int) impl.Task {
	return event(10, 50, 3, queue, 2)
}

// steadyTask is a valid task that is cyclic, so that its queue has one element.
func steadyTask() impl.Task {
	return cyclic(10, 9, 2)
}

// sourceTasks holds valid tasks of each length of a queue.
func sourceTasks() []impl.Task {
	return []impl.Task{queueTask(1), queueTask(2), queueTask(3), queueTask(4), steadyTask(), event(1, 1, 0, 4, 0), event(5000, 5000, 7, 2, 5), cyclic(5000, 1, 5)}
}

// edgeSources holds sources, valid and invalid, with each field and with the queue at and beyond the limits.
func edgeSources() []impl.Source {
	list := []impl.Source{{}, {Last: -1}, {Last: -1, Queue: []int{}}, {Last: 0, Queue: []int{0}}, {Last: -1, Queue: []int{0}}, {Last: -1, Queue: []int{-1}},
		sourceOf(50), sourceOf(50, 50), sourceOf(50, 51), sourceOf(50, -1), sourceOf(50, math.MinInt), sourceOf(50, math.MaxInt), sourceOf(largestValue, largestValue), sourceOf(largestValue, largestValue+1),
		sourceOf(50, 20, 20), sourceOf(50, 40, 20), sourceOf(50, -1, 20), sourceOf(50, 0, 50), sourceOf(50, 0, 51), sourceOf(50, 1, 2, 50), sourceOf(50, 1, 2, 3, 50), sourceOf(50, 1, 2, 3, 4, 50), sourceOf(50, 1, 3, 2, 50)}
	for i := range 6 {
		for _, n := range []int{math.MinInt, smallestValue, -2, -1, 0, 1, largestValue - 2, largestValue - 1, largestValue, largestValue + 1, 1 << 32, math.MaxInt} {
			for _, x := range []impl.Source{sourceOf(50), sourceOf(50, 20, 40)} {
				*sourceFields(&x)[i] = n
				list = append(list, x)
			}
		}
	}
	for _, n := range []int{6, 256, longestList, longestList + 1, 20000} {
		list = append(list, sourceOf(largestValue, rising(n, 0)...), sourceOf(largestValue, make([]int, n)...))
	}
	return list
}

// rising returns n numbers from first on.
func rising(n, first int) []int {
	list := make([]int, n)
	for i := range list {
		list[i] = first + i
	}
	return list
}

// invalidSources holds sources that are not valid for any task.
func invalidSources() []impl.Source {
	list := []impl.Source{sourceOf(largestValue, rising(longestList, 0)...), sourceOf(largestValue, rising(longestList+1, 0)...)}
	for _, x := range edgeSources() {
		if !sourceByRule(x, queueTask(4)) {
			list = append(list, x)
		}
	}
	return list
}

func wantSource(t *testing.T, x impl.Source, task impl.Task, want bool) {
	t.Helper()
	if got := impl.SourceOK(x, task); got != want || sourceByRule(x, task) != want {
		t.Errorf("SourceOK(%s, %v) is %t, by rule %t, want %t", brief(x), task, got, sourceByRule(x, task), want)
	}
}

// wantBad expects ErrBad and nothing else from every function that takes a source.
func wantBad(t *testing.T, x impl.Source, task impl.Task) {
	t.Helper()
	wantSource(t, x, task, false)
	for _, now := range []int{math.MinInt, -1, 0, 50, 51, 60, 5050, largestValue, largestValue + 1, math.MaxInt} {
		if y, code := impl.OfferEvent(x, task, now); !isZeroSource(y) || code != impl.ErrBad {
			t.Errorf("OfferEvent(%s, %v, %d) = %s, %d, want ErrBad", brief(x), task, now, brief(y), code)
		}
	}
	if y, at, code := impl.TakeEvent(x, task); !isZeroSource(y) || at != 0 || code != impl.ErrBad {
		t.Errorf("TakeEvent(%s, %v) = %s, %d, %d, want ErrBad", brief(x), task, brief(y), at, code)
	}
	for _, running := range []bool{false, true} {
		if y, code := impl.DropEvents(x, task, running); !isZeroSource(y) || code != impl.ErrBad {
			t.Errorf("DropEvents(%s, %v, %t) = %s, %d, want ErrBad", brief(x), task, running, brief(y), code)
		}
	}
	if n, code := impl.BalanceOf(x, task); n != 0 || code != impl.ErrBad {
		t.Errorf("BalanceOf(%s, %v) = %d, %d, want ErrBad", brief(x), task, n, code)
	}
	if s, code := impl.SourceText(x, task); s != "" || code != impl.ErrBad {
		t.Errorf("SourceText(%s, %v) = %q, %d, want ErrBad", brief(x), task, s, code)
	}
}

func TestNewSource(t *testing.T) {
	x := impl.NewSource()
	if !equalSources(x, impl.Source{Last: -1}) {
		t.Error("NewSource", x)
	}
	for _, task := range edgeTasks() {
		wantSource(t, x, task, taskByRule(task))
	}
	// A caller that changes one changes no other.
	x.Arrived, x.Queue = 5, append(x.Queue, 7)
	if y := impl.NewSource(); !equalSources(y, impl.Source{Last: -1}) {
		t.Error("NewSource", y)
	}
}

func TestSourceOKByField(t *testing.T) {
	for _, task := range sourceTasks() {
		for _, x := range []impl.Source{impl.NewSource(), sourceOf(50), sourceOf(largestValue), sourceOf(-1), sourceOf(50, 20)} {
			wantSource(t, x, task, true)
			for i := range 6 {
				low := 0
				if i == 0 {
					low = -1
				}
				if i == 0 && len(x.Queue) > 0 {
					low = 20
				}
				for _, n := range append(edgeInts(), low-1, low, largestValue, largestValue+1, 1<<32+low, 1<<32+5, -1<<32+5) {
					wantSource(t, changedSource(x, func(x *impl.Source) { *sourceFields(x)[i] = n }), task, low <= n && n <= largestValue)
				}
			}
		}
	}
}

// The counters need not fit together.
func TestSourceOKOfCounters(t *testing.T) {
	for _, last := range []int{-1, 0, largestValue} {
		for k := range 32 {
			x := impl.Source{Last: last}
			for i, n := range sourceFields(&x)[1:] {
				*n = largestValue * (k >> i & 1)
			}
			wantSource(t, x, queueTask(1), true)
			for _, n := range sourceFields(&x)[1:] {
				*n = -1 - *n
			}
			wantSource(t, x, queueTask(1), false)
		}
	}
}

func TestSourceOKByLength(t *testing.T) {
	for _, task := range sourceTasks() {
		for _, n := range []int{0, 1, 2, 3, 4, 5, 6, 7, 8, 255, 256, 257, 258, 260, longestList, longestList + 1, 65537, 65540} {
			for _, first := range []int{0, 1, 100} {
				wantSource(t, sourceOf(first+n, rising(n, first)...), task, n <= task.Queue)
				wantSource(t, sourceOf(largestValue, rising(n, first)...), task, n <= task.Queue)
			}
		}
	}
}

func TestSourceOKByOrder(t *testing.T) {
	task := queueTask(4)
	for _, v := range []struct {
		last  int
		queue []int
		want  bool
	}{
		// the first element
		{9, []int{0}, true}, {9, []int{-1}, false}, {9, []int{-2}, false}, {9, []int{math.MinInt}, false}, {9, []int{-1, 3}, false}, {9, []int{-1, 0}, false}, {9, []int{0, 1}, true}, {0, []int{-1}, false}, {9, []int{-2, -1}, false}, {9, []int{-1, 0, 1, 2}, false},
		// the last element
		{9, []int{9}, true}, {9, []int{10}, false}, {9, []int{3, 9}, true}, {9, []int{3, 10}, false}, {9, []int{3, 4, 5, 9}, true}, {9, []int{3, 4, 5, 10}, false}, {9, []int{10, 11}, false}, {9, []int{math.MaxInt}, false},
		{0, []int{0}, true}, {0, []int{1}, false}, {0, []int{0, 1}, false}, {1, []int{0, 1}, true}, {largestValue, []int{largestValue}, true}, {largestValue, []int{largestValue + 1}, false}, {largestValue, []int{0, largestValue - 1, largestValue}, true},
		// before any release
		{-1, nil, true}, {-1, []int{}, true}, {-1, []int{0}, false}, {-1, []int{-1}, false}, {-1, []int{-2}, false}, {-1, []int{-2, -1}, false}, {-1, []int{-1, 0}, false}, {-1, []int{5}, false}, {-2, nil, false}, {-2, []int{-2}, false},
		// equal neighbours
		{9, []int{4, 4}, false}, {9, []int{0, 0}, false}, {9, []int{9, 9}, false}, {9, []int{4, 4, 5, 6}, false}, {9, []int{3, 4, 4, 6}, false}, {9, []int{3, 4, 6, 6}, false}, {9, []int{3, 4, 5, 6}, true},
		// falling neighbours
		{9, []int{4, 3}, false}, {9, []int{1, 0}, false}, {9, []int{9, 8}, false}, {9, []int{4, 3, 5, 6}, false}, {9, []int{3, 5, 4, 6}, false}, {9, []int{3, 4, 6, 5}, false}, {9, []int{6, 5, 4, 3}, false}, {9, []int{5, 3, 4}, false}, {9, []int{3, 9, 4}, false},
	} {
		wantSource(t, sourceOf(v.last, v.queue...), task, v.want)
		wantSource(t, impl.Source{Last: v.last, Queue: v.queue}, task, v.want)
	}
}

// eachQueue calls check with every list of at most n numbers from low to high.
func eachQueue(n, low, high int, check func(queue []int)) {
	queue := []int{}
	var extend func()
	extend = func() {
		check(slices.Clone(queue))
		if len(queue) == n {
			return
		}
		for at := low; at <= high; at++ {
			queue = append(queue, at)
			extend()
			queue = queue[:len(queue)-1]
		}
	}
	extend()
}

func TestSourceOKOfSmallQueues(t *testing.T) {
	valid := 0
	for last := -2; last <= 4; last++ {
		eachQueue(5, -2, 4, func(queue []int) {
			for n := 1; n <= 4; n++ {
				x := sourceOf(last, queue...)
				ok := sourceByRule(x, queueTask(n))
				if impl.SourceOK(x, queueTask(n)) != ok {
					t.Fatalf("SourceOK(%v) with a queue of %d is %t", x, n, !ok)
				}
				valid += asBit(ok)
			}
		})
	}
	// For a Last of n, all sets of at most as many of its n + 1 times as the queue has elements.
	if want := 4 + (4 * 2) + (3 + 3*4) + (4 + 7 + 2*8) + (5 + 11 + 15 + 16) + (6 + 16 + 26 + 31); valid != want {
		t.Error(valid, "sources are valid, want", want)
	}
}

func TestSourceOfInvalidTask(t *testing.T) {
	sources := []impl.Source{impl.NewSource(), sourceOf(50), sourceOf(50, 20)}
	for i, task := range append(invalidTasks(), impl.Task{}) {
		x := sources[i%len(sources)]
		wantSource(t, x, queueTask(1), true)
		if i%9 == 0 || task.Queue < 1 || task.Queue > 4 {
			wantBad(t, x, task)
		} else {
			wantSource(t, x, task, false)
		}
	}
	// A queue that an invalid task would have room for.
	task := queueTask(5)
	wantBad(t, sourceOf(50, 1, 2, 3, 4, 5), task)
	wantBad(t, sourceOf(50, 1, 2), impl.Task{Kind: 1, Period: 9, Deadline: 9, Queue: 2})
	wantBad(t, impl.NewSource(), impl.Task{Kind: 2, Period: 9, Deadline: 9})
}

func TestInvalidSources(t *testing.T) {
	for _, x := range invalidSources() {
		for _, task := range sourceTasks() {
			wantBad(t, x, task)
		}
	}
	// A queue that is too long for this task.
	for n := 1; n < 4; n++ {
		wantBad(t, sourceOf(50, rising(n+1, 5)...), queueTask(n))
	}
	wantBad(t, sourceOf(50, 5, 6), steadyTask())
	wantBad(t, impl.Source{}, impl.Task{})
}

func wantBalance(t *testing.T, x impl.Source, task impl.Task, want int) {
	t.Helper()
	if n, code := impl.BalanceOf(x, task); n != want || code != impl.OK {
		t.Errorf("BalanceOf(%v, %v) = %d, %d, want %d", x, task, n, code, want)
	}
}

func TestBalanceOf(t *testing.T) {
	const most = largestValue
	for _, v := range []struct {
		x    impl.Source
		want int
	}{
		{impl.NewSource(), 0}, {impl.Source{}, 0}, {impl.Source{Last: 50}, 0},
		// every counter by itself
		{impl.Source{Arrived: 7}, 7}, {impl.Source{Done: 7}, -7}, {impl.Source{Throttled: 7}, -7}, {impl.Source{Lost: 7}, -7}, {impl.Source{Dropped: 7}, -7},
		{impl.Source{Arrived: most}, most}, {impl.Source{Done: most}, -most}, {impl.Source{Throttled: most}, -most}, {impl.Source{Lost: most}, -most}, {impl.Source{Dropped: most}, -most},
		// several at once
		{impl.Source{Arrived: 100, Done: 40, Throttled: 30, Lost: 20, Dropped: 10}, 0}, {impl.Source{Arrived: 101, Done: 40, Throttled: 30, Lost: 20, Dropped: 10}, 1}, {impl.Source{Arrived: 99, Done: 40, Throttled: 30, Lost: 20, Dropped: 10}, -1},
		{sourceOf(50), 35}, {impl.Source{Arrived: most, Done: most, Throttled: most, Lost: most, Dropped: most}, -3 * most}, {impl.Source{Done: most, Throttled: most, Lost: most, Dropped: most}, -4 * most},
		// pending releases
		{impl.Source{Queue: []int{0}}, -1}, {sourceOf(50, 4), 34}, {sourceOf(50, 4, 5), 33}, {sourceOf(50, 4, 5, 6), 32}, {sourceOf(50, 4, 5, 6, 7), 31},
		{impl.Source{Last: 9, Arrived: 6, Lost: 2, Queue: []int{6, 7, 8, 9}}, 0}, {impl.Source{Last: most, Done: most, Throttled: most, Lost: most, Dropped: most, Queue: []int{1, 2, 3, most}}, -4*most - 4},
	} {
		wantBalance(t, v.x, queueTask(4), v.want)
		if len(v.x.Queue) < 2 {
			wantBalance(t, v.x, queueTask(1), v.want)
			wantBalance(t, v.x, steadyTask(), v.want)
		}
	}
}

func wantSourceText(t *testing.T, x impl.Source, want string) {
	t.Helper()
	if s, code := impl.SourceText(x, queueTask(4)); s != want || code != impl.OK {
		t.Errorf("SourceText(%v) = %q, %d, want %q", x, s, code, want)
	}
}

func TestSourceText(t *testing.T) {
	for _, v := range []struct {
		x    impl.Source
		want string
	}{
		{impl.NewSource(), "arrived 0 done 0 throttled 0 lost 0 dropped 0 waiting 0"},
		{impl.Source{Last: 1}, "arrived 0 done 0 throttled 0 lost 0 dropped 0 waiting 0"},
		{impl.Source{Arrived: 1}, "arrived 1 done 0 throttled 0 lost 0 dropped 0 waiting 0"},
		{impl.Source{Done: 20}, "arrived 0 done 20 throttled 0 lost 0 dropped 0 waiting 0"},
		{impl.Source{Throttled: 3}, "arrived 0 done 0 throttled 3 lost 0 dropped 0 waiting 0"},
		{impl.Source{Lost: 4}, "arrived 0 done 0 throttled 0 lost 4 dropped 0 waiting 0"},
		{impl.Source{Dropped: 50}, "arrived 0 done 0 throttled 0 lost 0 dropped 50 waiting 0"},
		{impl.Source{Queue: []int{0}}, "arrived 0 done 0 throttled 0 lost 0 dropped 0 waiting 1"},
		{sourceOf(50, 7, 50), "arrived 99 done 31 throttled 17 lost 11 dropped 5 waiting 2"},
		{sourceOf(50, 7, 8, 9, 10), "arrived 99 done 31 throttled 17 lost 11 dropped 5 waiting 4"},
		{impl.Source{Last: -1, Arrived: largestValue, Done: largestValue, Throttled: largestValue, Lost: largestValue, Dropped: largestValue}, "arrived 2147483647 done 2147483647 throttled 2147483647 lost 2147483647 dropped 2147483647 waiting 0"},
	} {
		wantSourceText(t, v.x, v.want)
	}
	for _, x := range edgeSources() {
		if sourceByRule(x, queueTask(4)) {
			wantSourceText(t, x, fmt.Sprintf("arrived %d done %d throttled %d lost %d dropped %d waiting %d", x.Arrived, x.Done, x.Throttled, x.Lost, x.Dropped, len(x.Queue)))
		}
	}
}
