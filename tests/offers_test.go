package tests

import (
	"math"
	"testing"

	"loop.example/g00684/impl"
)

// oneMore is what a counter becomes.
func oneMore(n int) int {
	if n == largestValue {
		return n
	}
	return n + 1
}

// offerByRule is the reference for OfferEvent.
func offerByRule(x impl.Source, task impl.Task, now int) (impl.Source, int) {
	if !sourceByRule(x, task) {
		return impl.Source{}, impl.ErrBad
	}
	if now < x.Last || now < 0 || now > largestValue {
		return impl.Source{}, impl.ErrRange
	}
	y := copyOfSource(x)
	y.Arrived = oneMore(x.Arrived)
	if x.Last >= 0 && now < x.Last+task.Period {
		y.Throttled = oneMore(x.Throttled)
		return y, impl.ErrLoad
	}
	if len(x.Queue) == task.Queue {
		y.Lost = oneMore(x.Lost)
		return y, impl.ErrFull
	}
	y.Queue = append(y.Queue, now)
	y.Last = now
	return y, impl.OK
}

func wantOffer(t *testing.T, x impl.Source, task impl.Task, now int, want impl.Source, code int) {
	t.Helper()
	if y, c := impl.OfferEvent(x, task, now); !equalSources(y, want) || c != code {
		t.Errorf("OfferEvent(%s, %v, %d) = %s, %d, want %s, %d", brief(x), task, now, brief(y), c, brief(want), code)
	}
}

// checkOffer returns the code.
func checkOffer(t *testing.T, x impl.Source, task impl.Task, now int) int {
	t.Helper()
	want, code := offerByRule(x, task, now)
	wantOffer(t, x, task, now, want, code)
	return code
}

// wantAccepted expects the release in the queue.
func wantAccepted(t *testing.T, x impl.Source, task impl.Task, now int) {
	t.Helper()
	wantOffer(t, x, task, now, changedSource(x, func(y *impl.Source) {
		y.Arrived, y.Last, y.Queue = x.Arrived+1, now, append(y.Queue, now)
	}), impl.OK)
	checkOffer(t, x, task, now)
}

func wantThrottled(t *testing.T, x impl.Source, task impl.Task, now int) {
	t.Helper()
	wantOffer(t, x, task, now, changedSource(x, func(y *impl.Source) { y.Arrived, y.Throttled = x.Arrived+1, x.Throttled+1 }), impl.ErrLoad)
	checkOffer(t, x, task, now)
}

func wantLost(t *testing.T, x impl.Source, task impl.Task, now int) {
	t.Helper()
	wantOffer(t, x, task, now, changedSource(x, func(y *impl.Source) { y.Arrived, y.Lost = x.Arrived+1, x.Lost+1 }), impl.ErrFull)
	checkOffer(t, x, task, now)
}

func wantOutOfRange(t *testing.T, x impl.Source, task impl.Task, now int) {
	t.Helper()
	wantOffer(t, x, task, now, impl.Source{}, impl.ErrRange)
	checkOffer(t, x, task, now)
}

// Before the first release none can be too early, whatever the period.
func TestFirstOffer(t *testing.T) {
	for _, task := range sourceTasks() {
		for _, now := range []int{0, 1, 9, 10, 11, 4999, 5000, largestValue - 1, largestValue} {
			wantAccepted(t, impl.NewSource(), task, now)
			wantAccepted(t, sourceOf(-1), task, now)
		}
		for _, now := range []int{-1, -2, smallestValue, math.MinInt, largestValue + 1, 1 << 32, math.MaxInt} {
			wantOutOfRange(t, impl.NewSource(), task, now)
			wantOutOfRange(t, sourceOf(-1), task, now)
		}
	}
	// Nothing can be pending before the first release, so that a source with a full queue is not valid then.
	for n := 1; n <= 4; n++ {
		wantOffer(t, sourceOf(-1, rising(n, 0)...), queueTask(n), 100, impl.Source{}, impl.ErrBad)
		wantOffer(t, sourceOf(-1, rising(n, -n)...), queueTask(n), 100, impl.Source{}, impl.ErrBad)
		wantOffer(t, sourceOf(-1, rising(n, 0)...), queueTask(4), 100, impl.Source{}, impl.ErrBad)
	}
	// The one at 0, if it is still pending, counts like any other.
	x, _ := impl.OfferEvent(impl.NewSource(), queueTask(1), 0)
	wantThrottled(t, x, queueTask(1), 0)
	wantThrottled(t, x, queueTask(1), 9)
	wantLost(t, x, queueTask(1), 10)
	wantThrottled(t, x, queueTask(2), 9)
	wantAccepted(t, x, queueTask(2), 10)
}

func TestOfferByPeriod(t *testing.T) {
	for _, period := range []int{1, 2, 3, 10, 255, 256, 4999, 5000} {
		for _, last := range []int{0, 1, 2, 9, 5000, largestValue - period - 1, largestValue - period} {
			for _, task := range []impl.Task{event(period, 50, 3, 1, 2), event(period, 50, 3, 4, 2), cyclic(period, 1, 2)} {
				x := sourceOf(last)
				for _, now := range []int{last, last + period/2, last + period - 1} {
					wantThrottled(t, x, task, now)
				}
				wantAccepted(t, x, task, last+period)
				wantAccepted(t, x, task, largestValue)
				wantAccepted(t, x, task, min(last+period+1, largestValue))
				wantOutOfRange(t, x, task, last-1)
				wantOutOfRange(t, x, task, largestValue+1)
			}
		}
		// Near the largest time there is no time left for a further release.
		for _, last := range []int{largestValue - period + 1, largestValue} {
			for _, now := range []int{last, largestValue} {
				if now < last+period {
					wantThrottled(t, sourceOf(last), event(period, 50, 3, 4, 2), now)
				}
			}
			wantOutOfRange(t, sourceOf(last), event(period, 50, 3, 4, 2), last+period+largestValue)
		}
	}
}

// The period counts from the last accepted release, also if none or only older ones are pending.
func TestOfferCountsFromLast(t *testing.T) {
	for _, queue := range [][]int{nil, {5}, {90}, {50, 95}, {100}, {40, 100}} {
		x := sourceOf(100, queue...)
		wantThrottled(t, x, queueTask(4), 100)
		wantThrottled(t, x, queueTask(4), 109)
		wantAccepted(t, x, queueTask(4), 110)
		wantAccepted(t, x, queueTask(4), 111)
	}
	// Neither a throttled release nor a lost one begins a period.
	x := sourceOf(100, 100)
	for _, now := range []int{101, 105, 109} {
		wantThrottled(t, x, queueTask(1), now)
		x, _ = impl.OfferEvent(x, queueTask(1), now)
	}
	for _, now := range []int{110, 110, 111, 119, 120} {
		wantLost(t, x, queueTask(1), now)
		x, _ = impl.OfferEvent(x, queueTask(1), now)
	}
	if want := (impl.Source{Last: 100, Arrived: 107, Done: 31, Throttled: 20, Lost: 16, Dropped: 5, Queue: []int{100}}); !equalSources(x, want) {
		t.Error(x, "want", want)
	}
	// As soon as there is room, the next one is accepted.
	x, at, code := impl.TakeEvent(x, queueTask(1))
	if at != 100 || code != impl.OK {
		t.Error("TakeEvent", at, code)
	}
	wantAccepted(t, x, queueTask(1), 120)
	wantAccepted(t, x, queueTask(1), 121)
}

func TestOfferOutOfRange(t *testing.T) {
	for _, x := range []impl.Source{sourceOf(0), sourceOf(1), sourceOf(50), sourceOf(largestValue), sourceOf(50, 50), sourceOf(50, 20), sourceOf(largestValue, 3), sourceOf(0, 0)} {
		for _, task := range []impl.Task{queueTask(1), queueTask(4), steadyTask()} {
			for _, n := range append(edgeInts(), x.Last-1, x.Last-10, -1, -x.Last-1, largestValue+1, 1<<32+x.Last, 1<<32+x.Last+10) {
				if n < x.Last || n > largestValue {
					wantOutOfRange(t, x, task, n)
				} else {
					checkOffer(t, x, task, n)
				}
			}
		}
	}
}

// A release that is too early is throttled, also if the queue is full.
func TestOfferToFullQueue(t *testing.T) {
	for n := 1; n <= 4; n++ {
		task := queueTask(n)
		for _, last := range []int{n - 1, 50, largestValue - 100} {
			full := rising(n, last+1-n)
			for _, queue := range [][]int{full, rising(n, 0)} {
				x := sourceOf(last, queue...)
				for _, now := range []int{last, last + 1, last + 9} {
					wantThrottled(t, x, task, now)
				}
				for _, now := range []int{last + 10, last + 11, last + 100, largestValue} {
					wantLost(t, x, task, now)
				}
				wantOutOfRange(t, x, task, last-1)
				wantOutOfRange(t, x, task, largestValue+1)
				// one element of room
				x = sourceOf(last, queue[1:]...)
				for _, now := range []int{last, last + 9} {
					wantThrottled(t, x, task, now)
				}
				for _, now := range []int{last + 10, largestValue} {
					wantAccepted(t, x, task, now)
				}
				// one element too many
				for now := last; now <= last+10; now += 10 {
					wantOffer(t, sourceOf(last+1, append(queue[:n:n], last+1)...), task, now, impl.Source{}, impl.ErrBad)
				}
			}
		}
	}
	wantThrottled(t, sourceOf(50, 50), steadyTask(), 59)
	wantLost(t, sourceOf(50, 50), steadyTask(), 60)
	wantLost(t, sourceOf(50, 3), steadyTask(), 60)
}

// A queue is filled, overfilled and filled again behind what is taken out.
func TestOfferInSequence(t *testing.T) {
	task := queueTask(3)
	x := impl.NewSource()
	for i, v := range []struct{ now, code int }{
		{4, 0}, {4, impl.ErrLoad}, {13, impl.ErrLoad}, {14, 0}, {24, 0}, {33, impl.ErrLoad}, {34, impl.ErrFull}, {34, impl.ErrFull}, {35, impl.ErrFull}, {23, impl.ErrRange}, {1000, impl.ErrFull},
	} {
		y, code := impl.OfferEvent(x, task, v.now)
		if code != v.code {
			t.Error("offer", i, "has", code, "want", v.code)
		}
		if code != impl.ErrRange {
			x = y
		}
	}
	if want := (impl.Source{Last: 24, Arrived: 10, Throttled: 3, Lost: 4, Queue: []int{4, 14, 24}}); !equalSources(x, want) {
		t.Error(x, "want", want)
	}
	for i, now := range []int{1000, 1010, 1020, 1030, 1040} {
		y, at, code := impl.TakeEvent(x, task)
		if want := []int{4, 14, 24, 1000, 1010}[i]; at != want || code != impl.OK {
			t.Error("TakeEvent", at, code, "want", want)
		}
		wantAccepted(t, y, task, now)
		x, _ = impl.OfferEvent(y, task, now)
		wantLost(t, x, task, now+10)
	}
	if want := (impl.Source{Last: 1040, Arrived: 15, Throttled: 3, Lost: 4, Queue: []int{1020, 1030, 1040}}); !equalSources(x, want) {
		t.Error(x, "want", want)
	}
}

// At the limit each counter stays, and neither the code nor the other fields depend on that.
func TestOfferWithFullCounters(t *testing.T) {
	const most = largestValue
	task := queueTask(2)
	for _, v := range []struct {
		x, want   impl.Source
		now, code int
	}{
		{impl.Source{Last: 50, Arrived: most}, impl.Source{Last: 60, Arrived: most, Queue: []int{60}}, 60, impl.OK},
		{impl.Source{Last: 50, Arrived: most - 1}, impl.Source{Last: 60, Arrived: most, Queue: []int{60}}, 60, impl.OK},
		{impl.Source{Last: 50, Arrived: most - 2}, impl.Source{Last: 60, Arrived: most - 1, Queue: []int{60}}, 60, impl.OK},
		{impl.Source{Last: 50, Arrived: most}, impl.Source{Last: 50, Arrived: most, Throttled: 1}, 59, impl.ErrLoad},
		{impl.Source{Last: 50, Throttled: most}, impl.Source{Last: 50, Arrived: 1, Throttled: most}, 59, impl.ErrLoad},
		{impl.Source{Last: 50, Throttled: most - 1}, impl.Source{Last: 50, Arrived: 1, Throttled: most}, 59, impl.ErrLoad},
		{impl.Source{Last: 50, Arrived: most, Throttled: most}, impl.Source{Last: 50, Arrived: most, Throttled: most}, 50, impl.ErrLoad},
		{impl.Source{Last: 50, Arrived: most, Queue: []int{1, 2}}, impl.Source{Last: 50, Arrived: most, Lost: 1, Queue: []int{1, 2}}, 60, impl.ErrFull},
		{impl.Source{Last: 50, Lost: most, Queue: []int{1, 2}}, impl.Source{Last: 50, Arrived: 1, Lost: most, Queue: []int{1, 2}}, 60, impl.ErrFull},
		{impl.Source{Last: 50, Lost: most - 1, Queue: []int{1, 2}}, impl.Source{Last: 50, Arrived: 1, Lost: most, Queue: []int{1, 2}}, 60, impl.ErrFull},
		{impl.Source{Last: 50, Arrived: most, Lost: most, Queue: []int{1, 50}}, impl.Source{Last: 50, Arrived: most, Lost: most, Queue: []int{1, 50}}, 60, impl.ErrFull},
		{impl.Source{Last: most - 10, Arrived: most, Done: most, Throttled: most, Lost: most, Dropped: most, Queue: []int{1}}, impl.Source{Last: most, Arrived: most, Done: most, Throttled: most, Lost: most, Dropped: most, Queue: []int{1, most}}, most, impl.OK},
		{impl.Source{Last: -1, Arrived: most, Done: most, Throttled: most, Lost: most, Dropped: most}, impl.Source{Last: 0, Arrived: most, Done: most, Throttled: most, Lost: most, Dropped: most, Queue: []int{0}}, 0, impl.OK},
	} {
		wantOffer(t, v.x, task, v.now, v.want, v.code)
		checkOffer(t, v.x, task, v.now)
	}
}

func TestOfferOfSmallSources(t *testing.T) {
	seen := map[int]int{}
	for last := -1; last <= 4; last++ {
		eachQueue(3, 0, 4, func(queue []int) {
			for n := 1; n <= 3; n++ {
				for period := 1; period <= 4; period++ {
					for now := -2; now <= 9; now++ {
						seen[checkOffer(t, sourceOf(last, queue...), event(period, 50, 3, n, 2), now)]++
					}
				}
			}
		})
	}
	for _, code := range []int{impl.OK, impl.ErrBad, impl.ErrRange, impl.ErrLoad, impl.ErrFull} {
		if seen[code] < 100 {
			t.Error("code", code, "was seen", seen[code], "times")
		}
	}
}

func TestOfferOfEdgeSources(t *testing.T) {
	for _, x := range edgeSources() {
		for _, task := range append(sourceTasks(), impl.Task{}, queueTask(0), queueTask(5)) {
			for _, now := range append(edgeTimes(), 19, 20, 30, 49, 50, 51, 59, 60, 61, 5049, 5050) {
				checkOffer(t, x, task, now)
			}
		}
	}
}
