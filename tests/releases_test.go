package tests

import (
	"math/rand"
	"slices"
	"testing"

	"loop.example/g00684/impl"
)

// A ledger keeps the source of a task together with a list of each kind of release, by their times.
type ledger struct {
	t      *testing.T
	task   impl.Task
	source impl.Source
	now    int

	arrived, throttled, lost, dropped, done []int
	accepted                                []int // in all, in the order in which they were accepted
	pending, running                        []int
	outcomes                                map[int]int // how often OfferEvent returned each code
}

func newLedger(t *testing.T, task impl.Task, outcomes map[int]int) *ledger {
	return &ledger{t: t, task: task, source: impl.NewSource(), outcomes: outcomes}
}

// offer expects what follows from the lists alone.
func (l *ledger) offer(step int) {
	l.now += step
	y, code := impl.OfferEvent(l.source, l.task, l.now)
	l.source = y
	l.outcomes[code]++
	l.arrived = append(l.arrived, l.now)
	n := len(l.accepted)
	switch {
	case n > 0 && l.now-l.accepted[n-1] < l.task.Period:
		l.want(code == impl.ErrLoad, "a release that is too early")
		l.throttled = append(l.throttled, l.now)
	case len(l.pending) == l.task.Queue:
		l.want(code == impl.ErrFull, "a release to a full queue")
		l.lost = append(l.lost, l.now)
	default:
		l.want(code == impl.OK, "a release")
		l.accepted = append(l.accepted, l.now)
		l.pending = append(l.pending, l.now)
	}
	l.check()
}

func (l *ledger) take() {
	y, at, code := impl.TakeEvent(l.source, l.task)
	l.source = y
	if len(l.pending) == 0 {
		l.want(code == impl.ErrNone && at == 0, "nothing to take")
	} else {
		l.want(code == impl.OK && at == l.pending[0], "the oldest release")
		l.running = append(l.running, at)
		l.pending = l.pending[1:]
	}
	l.check()
}

// finish is what a scheduler does at the end of a job.
func (l *ledger) finish() {
	if len(l.running) == 0 {
		return
	}
	l.done = append(l.done, l.running[0])
	l.running = l.running[1:]
	l.source.Done++
	l.check()
}

// drop drops one running job, if there is any.
func (l *ledger) drop() {
	y, code := impl.DropEvents(l.source, l.task, len(l.running) > 0)
	l.want(code == impl.OK, "releases to drop")
	l.source = y
	if len(l.running) > 0 {
		l.dropped = append(l.dropped, l.running[0])
		l.running = l.running[1:]
	}
	l.dropped = append(l.dropped, l.pending...)
	l.pending = nil
	l.check()
}

func (l *ledger) want(holds bool, what string) {
	l.t.Helper()
	if !holds {
		l.t.Fatalf("%s at %d: the source of %v is %v", what, l.now, l.task, l.source)
	}
}

// check is about promise 11.
func (l *ledger) check() {
	l.t.Helper()
	x := l.source
	l.want(impl.SourceOK(x, l.task), "a valid source")
	l.want(slices.Equal(x.Queue, l.pending), "the pending releases")
	if n := len(l.accepted); n > 0 {
		l.want(x.Last == l.accepted[n-1], "the last release")
	}
	l.want(x.Arrived == x.Done+x.Throttled+x.Lost+x.Dropped+len(x.Queue)+len(l.running), "the sum of all releases")
	l.want(x.Arrived == len(l.arrived) && x.Done == len(l.done) && x.Throttled == len(l.throttled) && x.Lost == len(l.lost) && x.Dropped == len(l.dropped), "the counters")
	n, code := impl.BalanceOf(x, l.task)
	l.want(n == len(l.running) && code == impl.OK, "the balance")
}

// finalCheck accounts for every single release.
func (l *ledger) finalCheck() {
	l.t.Helper()
	for i := range l.accepted {
		l.want(i == 0 || l.accepted[i]-l.accepted[i-1] >= l.task.Period, "a period between releases")
	}
	l.want(slices.IsSorted(l.done), "jobs in the order of their releases")
	ends := slices.Concat(l.done, l.dropped, l.pending, l.running)
	slices.Sort(ends)
	l.want(slices.Equal(ends, l.accepted), "every accepted release")
	ends = slices.Concat(ends, l.throttled, l.lost)
	slices.Sort(ends)
	l.want(slices.Equal(ends, l.arrived), "every release")
}

// drawnLedger chooses a task and how often releases are offered, taken out and dropped.
func drawnLedger(t *testing.T, r *rand.Rand, outcomes map[int]int) {
	period := []int{1, 2, 3, 5, 10, 40, drawnTime(r)}[r.Intn(7)]
	task := event(period, drawnTime(r), r.Intn(8), 1+r.Intn(4), r.Intn(6))
	if r.Intn(4) == 0 {
		task = cyclic(period, 1+r.Intn(period), r.Intn(6))
	}
	l := newLedger(t, task, outcomes)
	takes, drops, wide := r.Intn(8), r.Intn(3), 1+r.Intn(2*period+2)
	for range 60 {
		switch n := r.Intn(12); {
		case n < takes:
			l.take()
			if r.Intn(2) > 0 {
				l.finish()
			}
		case n < takes+drops && r.Intn(4) == 0:
			l.drop()
		default:
			// Around the period as often as anywhere else.
			l.offer([]int{r.Intn(wide), r.Intn(wide), period, max(period-1, 0), 0}[r.Intn(5)])
		}
	}
	l.finalCheck()
}

func TestDrawnReleases(t *testing.T) {
	r := rand.New(rand.NewSource(111))
	outcomes := map[int]int{}
	for range 3000 {
		drawnLedger(t, r, outcomes)
	}
	for _, code := range []int{impl.OK, impl.ErrLoad, impl.ErrFull} {
		if outcomes[code] < 5000 {
			t.Error("code", code, "was seen", outcomes[code], "times")
		}
	}
}

// Every sequence of a few actions, with a period of 2.
func TestAllShortSequences(t *testing.T) {
	actions := []func(*ledger){
		func(l *ledger) { l.offer(0) }, func(l *ledger) { l.offer(1) }, func(l *ledger) { l.offer(2) },
		func(l *ledger) { l.take() }, func(l *ledger) { l.take(); l.finish() }, func(l *ledger) { l.drop() },
	}
	for queue := 1; queue <= 2; queue++ {
		for n := range 6 * 6 * 6 * 6 * 6 * 6 {
			l := newLedger(t, event(2, 9, 0, queue, 0), map[int]int{})
			for range 6 {
				actions[n%6](l)
				n /= 6
			}
			l.finalCheck()
		}
	}
}

// Offers to a cyclic task at multiples of its period are never throttled, and none is lost that is taken out in time.
func TestSteadyReleases(t *testing.T) {
	for _, period := range []int{1, 2, 10, 5000} {
		l := newLedger(t, cyclic(period, period, 0), map[int]int{})
		l.offer(0)
		for range 100 {
			l.take()
			l.finish()
			l.offer(period)
		}
		l.finalCheck()
		if l.outcomes[impl.OK] != 101 {
			t.Error("the codes were", l.outcomes)
		}
		// If none is taken out any more, the next ones are lost, however many there are.
		for range 100 {
			l.offer(period)
		}
		l.take()
		l.offer(period)
		l.finalCheck()
		if l.outcomes[impl.OK] != 102 || l.outcomes[impl.ErrFull] != 100 || l.outcomes[impl.ErrLoad] != 0 {
			t.Error("the codes were", l.outcomes)
		}
	}
}

// A source that starts again takes a release at once, whenever the last one was.
func TestReleasesBehindStart(t *testing.T) {
	task := queueTask(2)
	x := sourceOf(50, 40, 50)
	x, _ = impl.DropEvents(x, task, true)
	x.Last = -1
	wantAccepted(t, x, task, 51)
	x, _ = impl.OfferEvent(x, task, 51)
	wantThrottled(t, x, task, 60)
	wantAccepted(t, x, task, 61)
	wantTake(t, x, task, changedSource(x, func(x *impl.Source) { x.Queue = nil }), 51, impl.OK)
}
