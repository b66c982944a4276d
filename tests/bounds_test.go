package tests

import (
	"fmt"
	"math/rand"
	"slices"
	"testing"

	"loop.example/g00684/impl"
)

// waiting returns code of n ticks, which are none or at least 2, without a cut.
func waiting(n int) string {
	switch {
	case n == 0:
		return ""
	case n <= 21:
		return fmt.Sprint("repeat ", n-1, "; end;")
	case n <= 84:
		return waiting(n/2) + waiting(n-n/2)
	}
	body := (n-1)/20 - 1
	rest := n - 1 - 20*(body+1)
	if rest == 1 {
		body, rest = body-1, 21
	}
	return "repeat 20;" + waiting(body) + "end;" + waiting(rest)
}

// lasting returns code of which a job costs n ticks, in one section.
func lasting(n int) string {
	return waiting(n - 2)
}

func TestWaiting(t *testing.T) {
	for n := range largestTime + 10 {
		if n != 1 {
			wantCost(t, waiting(n), summary(n, n, -1, -1, -1))
		}
	}
}

func bound(cost, longest, blocking, n int) impl.Bound {
	return impl.Bound{Cost: cost, Longest: longest, Blocking: blocking, Bound: n}
}

// jobSummary is the reference for JobCost: each end of the job has one tick more.
func jobSummary(a impl.Summary) impl.Summary {
	return summary(sumOf(a.Total, 2), sumOf(a.None, 2), sumOf(a.Head, 1), sumOf(a.Tail, 1), a.Inner)
}

// jobSums returns the summaries of the jobs of all tasks.
func jobSums(p impl.Program) []impl.Summary {
	var sums costing
	for _, routine := range p.Routines {
		sums = append(sums, sums.costOf(routine.Code))
	}
	var list []impl.Summary
	for _, x := range p.Tasks {
		list = append(list, jobSummary(sums[x.Routine]))
	}
	return list
}

// boundsByRule is the reference for BoundsOf and for the first part of AdmitProgram; it takes a valid program.
func boundsByRule(p impl.Program) ([]impl.Bound, int, int) {
	jobs := jobSums(p)
	for k, job := range jobs {
		if job.Total > largestTime {
			return nil, k, impl.ErrLoad
		}
	}
	var list []impl.Bound
	var costs, periods []int
	for k, x := range p.Tasks {
		b := bound(jobs[k].Total, longestOf(jobs[k]), 0, 0)
		for _, lower := range jobs[k+1:] {
			b.Blocking = max(b.Blocking, longestOf(lower))
		}
		costs, periods = append(costs, b.Cost), append(periods, x.Period)
		if b.Bound = countedBusy(costs, periods, b.Blocking); b.Bound == 0 {
			return nil, k, impl.ErrLoad
		}
		list = append(list, b)
	}
	return list, 0, impl.OK
}

func longestOf(a impl.Summary) int {
	return max(a.None, a.Head, a.Tail, a.Inner)
}

func wantBoundsOf(t *testing.T, p impl.Program, want []impl.Bound, code int) {
	t.Helper()
	if list, c := impl.BoundsOf(p); !slices.Equal(list, want) || c != code {
		t.Errorf("BoundsOf(%s) = %v, %d, want %v, %d", brief(p), list, c, want, code)
	}
}

// checkBounds takes a valid program.
func checkBounds(t *testing.T, p impl.Program) ([]impl.Bound, int) {
	t.Helper()
	want, _, code := boundsByRule(p)
	wantBoundsOf(t, p, want, code)
	return want, code
}

// wantBounds compares with bounds that are worked out by hand.
func wantBounds(t *testing.T, list []impl.Routine, tasks []impl.Task, want ...impl.Bound) {
	t.Helper()
	p := programOf(nil, list, tasks...)
	if k, code := impl.CheckProgram(p); code != 0 {
		t.Fatalf("%s is not valid: %d, %d", brief(p), k, code)
	}
	wantBoundsOf(t, p, want, impl.OK)
	if got, k, code := boundsByRule(p); !slices.Equal(got, want) || k+code != 0 {
		t.Errorf("by rule the bounds of %s are %v, %d, %d, want %v", brief(p), got, k, code, want)
	}
}

// slow returns a task for each routine, all of which have the same long period.
func slow(routines ...int) []impl.Task {
	var tasks []impl.Task
	for _, k := range routines {
		tasks = append(tasks, cyclic(1000, 1000, k))
	}
	return tasks
}

func TestBoundsOfOneTask(t *testing.T) {
	for _, v := range []struct {
		text          string
		cost, longest int
	}{
		{"", 2, 2}, {"push 1; store 0", 4, 4}, {waiting(98), 100, 100}, {waiting(998), 1000, 1000},
		// the first section has the tick of the inputs, the last one that of the outputs, one between cuts neither
		{"cut", 3, 2}, {"cut; cut", 4, 2}, {waiting(20) + "cut", 23, 22}, {"cut;" + waiting(20), 23, 21}, {"cut;" + waiting(20) + "cut", 24, 21},
		{waiting(8) + "cut;" + waiting(20) + "cut;" + waiting(5), 37, 21}, {waiting(19) + "cut;" + waiting(20) + "cut;" + waiting(18), 61, 21}, {waiting(20) + "cut;" + waiting(20) + "cut;" + waiting(20), 64, 22},
		{"cut;" + waiting(20) + "cut;" + waiting(21), 45, 22}, {"cut;" + waiting(19) + "cut;" + waiting(20), 43, 21},
		// no cut in one branch
		{"in 0; if; cut; else;" + waiting(20) + "end", 25, 25}, {"in 0; if;" + waiting(20) + "cut; end", 26, 24}, {"in 0; if; cut;" + waiting(20) + "end", 26, 22},
		{"repeat 3; cut; end", 9, 3}, {"repeat 20; load 0; store 0; end", 63, 63},
	} {
		want := bound(v.cost, v.longest, 0, v.cost)
		wantBounds(t, routinesOf(v.text), slow(0), want)
		wantBounds(t, routinesOf(v.text), []impl.Task{cyclic(v.cost, 1, 0)}, want)
		wantBounds(t, routinesOf(v.text), []impl.Task{event(v.cost, 5000, 7, 4, 0)}, want)
		wantBounds(t, routinesOf("cut", v.text, "repeat 20; end"), slow(1), want)
	}
	wantBounds(t, routinesOf(waiting(10), "call 0; cut; call 0"), slow(1), bound(27, 14, 0, 27))
}

// A task is blocked by the longest section of those behind it, whatever its own, and whatever they cost in all.
func TestBlocking(t *testing.T) {
	wantBounds(t, routinesOf("", lasting(20)), slow(0, 1), bound(2, 2, 20, 22), bound(20, 20, 0, 22))
	wantBounds(t, routinesOf("", lasting(20)), slow(1, 0), bound(20, 20, 2, 22), bound(2, 2, 0, 22))
	list := routinesOf(lasting(10), lasting(4), lasting(30))
	wantBounds(t, list, slow(0, 1, 2), bound(10, 10, 30, 40), bound(4, 4, 30, 44), bound(30, 30, 0, 44))
	wantBounds(t, list, slow(0, 2, 1), bound(10, 10, 30, 40), bound(30, 30, 4, 44), bound(4, 4, 0, 44))
	wantBounds(t, list, slow(2, 1, 0), bound(30, 30, 10, 40), bound(4, 4, 10, 44), bound(10, 10, 0, 44))
	wantBounds(t, list, slow(2, 0, 1), bound(30, 30, 10, 40), bound(10, 10, 4, 44), bound(4, 4, 0, 44))
	wantBounds(t, routinesOf(lasting(10), lasting(6), lasting(12), lasting(8), lasting(4)), slow(0, 1, 2, 3, 4),
		bound(10, 10, 12, 22), bound(6, 6, 12, 28), bound(12, 12, 8, 36), bound(8, 8, 4, 40), bound(4, 4, 0, 40))
	// a long job with short sections, and a short one with a longer section
	list = routinesOf("", "repeat 20; cut; end", lasting(5))
	wantBounds(t, list, slow(0, 1, 2), bound(2, 2, 5, 7), bound(43, 3, 5, 50), bound(5, 5, 0, 50))
	wantBounds(t, list, slow(0, 2, 1), bound(2, 2, 5, 7), bound(5, 5, 3, 10), bound(43, 3, 0, 50))
	wantBounds(t, list, slow(1, 2, 0), bound(43, 3, 5, 48), bound(5, 5, 2, 50), bound(2, 2, 0, 50))
	wantBounds(t, list, slow(2, 1, 0), bound(5, 5, 3, 8), bound(43, 3, 2, 50), bound(2, 2, 0, 50))
	// a routine that is no task's blocks none
	wantBounds(t, list, slow(0, 1), bound(2, 2, 3, 5), bound(43, 3, 0, 45))
}

func TestBoundsOfSharedRoutines(t *testing.T) {
	list := routinesOf(lasting(10), lasting(4))
	wantBounds(t, list, slow(0, 0, 0), bound(10, 10, 10, 20), bound(10, 10, 10, 30), bound(10, 10, 0, 30))
	wantBounds(t, list, slow(1, 0, 1, 0, 1), bound(4, 4, 10, 14), bound(10, 10, 10, 24), bound(4, 4, 10, 28), bound(10, 10, 4, 32), bound(4, 4, 0, 32))
	wantBounds(t, list, slow(1, 1, 0, 1), bound(4, 4, 10, 14), bound(4, 4, 10, 18), bound(10, 10, 4, 22), bound(4, 4, 0, 22))
	// The tasks of one routine have periods of their own.
	wantBounds(t, list, []impl.Task{cyclic(20, 20, 0), cyclic(100, 100, 0)}, bound(10, 10, 10, 20), bound(10, 10, 0, 20))
	wantBounds(t, list, []impl.Task{cyclic(19, 19, 0), cyclic(100, 100, 0)}, bound(10, 10, 10, 30), bound(10, 10, 0, 30))
}

// The periods of this task and of those before it count, those of the tasks behind it do not.
func TestBoundsByPeriod(t *testing.T) {
	list := routinesOf(lasting(10), lasting(15))
	wantBounds(t, list, []impl.Task{cyclic(20, 9, 0), cyclic(100, 9, 1)}, bound(10, 10, 15, 35), bound(15, 15, 0, 35))
	wantBounds(t, list, []impl.Task{cyclic(25, 9, 0), cyclic(100, 9, 1)}, bound(10, 10, 15, 25), bound(15, 15, 0, 25))
	wantBounds(t, list, []impl.Task{cyclic(24, 9, 0), cyclic(100, 9, 1)}, bound(10, 10, 15, 35), bound(15, 15, 0, 35))
	wantBounds(t, list, []impl.Task{cyclic(100, 9, 0), cyclic(25, 9, 1)}, bound(10, 10, 15, 25), bound(15, 15, 0, 25))
	wantBounds(t, list, []impl.Task{cyclic(100, 9, 0), cyclic(24, 9, 1)}, bound(10, 10, 15, 25), bound(15, 15, 0, 40))
	wantBounds(t, list, []impl.Task{event(20, 9, 0, 1, 0), cyclic(30, 9, 1)}, bound(10, 10, 15, 35), bound(15, 15, 0, 60))
	wantBounds(t, routinesOf(lasting(5), lasting(5)), []impl.Task{cyclic(10, 9, 0), cyclic(10, 9, 1)}, bound(5, 5, 5, 10), bound(5, 5, 0, 10))
	p := impl.DemoProgram()
	wantBoundsOf(t, p, []impl.Bound{bound(11, 11, 8, 19), bound(28, 8, 0, 39)}, impl.OK)
	p.Tasks[0].Period, p.Tasks[0].Queue, p.Tasks[0].Deadline = 20, 2, 60
	wantBoundsOf(t, p, []impl.Bound{bound(11, 11, 8, 19), bound(28, 8, 0, 72)}, impl.OK)
}

// Kind, Deadline, Pin and Queue have no influence.
func TestBoundsOfOtherTasks(t *testing.T) {
	r := rand.New(rand.NewSource(102))
	for range 300 {
		p := drawnProgram(r)
		want, code := checkBounds(t, p)
		for k, x := range p.Tasks {
			if r.Intn(2) > 0 {
				p.Tasks[k] = event(x.Period, 1+r.Intn(largestTime), r.Intn(8), 1+r.Intn(4), x.Routine)
			} else {
				p.Tasks[k] = cyclic(x.Period, 1+r.Intn(x.Period), x.Routine)
			}
		}
		wantBoundsOf(t, p, want, code)
	}
}

func TestBoundsOfTheLargestCosts(t *testing.T) {
	wantBounds(t, routinesOf(lasting(5000)), []impl.Task{cyclic(5000, 5000, 0)}, bound(5000, 5000, 0, 5000))
	wantBounds(t, routinesOf(waiting(2500)+"cut;"+waiting(2497)), []impl.Task{cyclic(5000, 5000, 0)}, bound(5000, 2502, 0, 5000))
	wantBounds(t, routinesOf(lasting(2500)), []impl.Task{cyclic(2500, 2500, 0)}, bound(2500, 2500, 0, 2500))
	wantBounds(t, routinesOf(lasting(2500)), []impl.Task{cyclic(5000, 5000, 0), cyclic(5000, 5000, 0)}, bound(2500, 2500, 2500, 5000), bound(2500, 2500, 0, 5000))
}

// overloads holds valid programs without bounds, each with the task that is its cause.
func overloads() []illProgram {
	var list []illProgram
	add := func(k int, routines []impl.Routine, tasks ...impl.Task) {
		list = append(list, illProgram{programOf(nil, routines, tasks...), k, impl.ErrLoad})
	}
	huge := "repeat 20; repeat 20; repeat 20; repeat 20; end; end; end; end;"
	for _, text := range []string{lasting(5001), lasting(5002), huge, "repeat 20; repeat 20; repeat 20; cut; end; end; end;"} {
		routines := routinesOf("", text)
		add(0, routines, cyclic(5000, 5000, 1))
		for k := range 5 {
			tasks := slices.Repeat([]impl.Task{cyclic(5000, 5000, 0)}, 5)
			tasks[k].Routine = 1
			add(k, routines, tasks...)
			// Of several the first one counts.
			for i := k; i < 5; i++ {
				tasks[i].Routine = 1
			}
			add(k, routines, tasks...)
		}
		// The cost comes before the load of a task before it.
		add(1, routines, cyclic(1, 1, 0), cyclic(5000, 5000, 1))
		add(4, routines, cyclic(1, 1, 0), cyclic(1, 1, 0), cyclic(1, 1, 0), cyclic(1, 1, 0), cyclic(5000, 5000, 1))
	}
	// a Total that is limited
	add(0, routinesOf(huge, "repeat 20; repeat 20; repeat 20; repeat 20; call 0; end; end; end; end"), cyclic(1, 1, 0), cyclic(5000, 5000, 1))
	add(2, routinesOf("", huge, "repeat 20; repeat 20; repeat 20; repeat 20; call 1; end; end; end; end"), cyclic(9, 9, 0), cyclic(9, 9, 0), cyclic(5000, 5000, 2))
	for n := 1; n <= 5; n++ {
		// more than a period, alone and with the others
		add(0, routinesOf(lasting(10)), slices.Repeat([]impl.Task{cyclic(9, 9, 0)}, n)...)
		add(n-1, routinesOf(lasting(10)), append(slices.Repeat([]impl.Task{cyclic(100, 100, 0)}, n-1), cyclic(9, 9, 0))...)
	}
	// A load of one, which leaves nothing to be blocked.
	add(0, routinesOf(lasting(10)), cyclic(10, 10, 0), cyclic(5000, 5000, 0))
	add(1, routinesOf(lasting(5), ""), cyclic(10, 10, 0), cyclic(10, 10, 0), cyclic(100, 100, 1))
	add(2, routinesOf(lasting(10)), cyclic(100, 100, 0), cyclic(20, 20, 0), cyclic(20, 20, 0))
	// a busy period of more than the largest time
	add(0, routinesOf(lasting(5000), ""), cyclic(5000, 5000, 1), cyclic(5000, 5000, 0))
	add(0, routinesOf(lasting(5000), ""), cyclic(5000, 5000, 0), cyclic(5000, 5000, 1))
	add(1, routinesOf(lasting(2000), lasting(1001)), cyclic(5000, 5000, 0), cyclic(5000, 5000, 0), cyclic(5000, 5000, 1))
	add(1, routinesOf(lasting(1000), lasting(2001)), cyclic(5000, 5000, 0), cyclic(4000, 4000, 1), cyclic(5000, 5000, 1))
	return list
}

func TestBoundsOfOverloads(t *testing.T) {
	for _, v := range overloads() {
		if k, code := impl.CheckProgram(v.program); code != 0 {
			t.Fatalf("%s is not valid: %d, %d", brief(v.program), k, code)
		}
		wantBoundsOf(t, v.program, nil, impl.ErrLoad)
		if _, k, code := boundsByRule(v.program); k != v.k || code != impl.ErrLoad {
			t.Errorf("by rule %s has %d, %d, want %d", brief(v.program), k, code, v.k)
		}
	}
	// One tick less, and there are bounds.
	wantBounds(t, routinesOf(lasting(4998), ""), []impl.Task{cyclic(5000, 5000, 1), cyclic(5000, 5000, 0)}, bound(2, 2, 4998, 5000), bound(4998, 4998, 0, 5000))
	wantBounds(t, routinesOf(lasting(2000), lasting(1000)), []impl.Task{cyclic(5000, 5000, 0), cyclic(5000, 5000, 0), cyclic(5000, 5000, 1)},
		bound(2000, 2000, 2000, 4000), bound(2000, 2000, 1000, 5000), bound(1000, 1000, 0, 5000))
}

// invalidPrograms holds programs of every kind that is not valid, with tasks that would load too much beside it where there are tasks.
func invalidPrograms() []impl.Program {
	list := []impl.Program{{}, programOf(nil, nil)}
	for _, v := range slices.Concat(badPrograms(), refusedPrograms(), tasklessPrograms()) {
		list = append(list, v.program, changedProgram(v.program, func(p *impl.Program) {
			for k := range p.Tasks {
				p.Tasks[k].Period, p.Tasks[k].Deadline = 1, 1
			}
		}))
	}
	for i, x := range invalidTasks() {
		if i%5 == 0 {
			for k := range 3 {
				list = append(list, changedProgram(plainProgram(), func(p *impl.Program) { p.Tasks[k] = x }))
				// behind, or before, tasks that load too much
				list = append(list, changedProgram(plainProgram(), func(p *impl.Program) {
					p.Tasks = slices.Repeat([]impl.Task{cyclic(1, 1, 0)}, 3)
					p.Tasks[k] = x
				}))
			}
		}
	}
	return append(list, programOf(nil, make([]impl.Routine, 2), cyclic(1, 1, 0), cyclic(9, 9, 2)))
}

func TestBoundsOfInvalidPrograms(t *testing.T) {
	for _, p := range invalidPrograms() {
		wantBoundsOf(t, p, nil, impl.ErrBad)
	}
	for _, v := range overloads() {
		wantBoundsOf(t, changedProgram(v.program, func(p *impl.Program) { p.Safe = p.Safe[1:] }), nil, impl.ErrBad)
		wantBoundsOf(t, changedProgram(v.program, func(p *impl.Program) { p.Tasks[len(p.Tasks)-1].Queue = 5 }), nil, impl.ErrBad)
	}
}

// drawnProgram is a valid program of which a good part has bounds.
func drawnProgram(r *rand.Rand) impl.Program {
	kinds := randomKinds(r)
	p := programOf(kinds, callingRoutines(r, kinds, 4+r.Intn(12)))
	tasks := 1 + r.Intn(5)
	for range tasks {
		p.Tasks = append(p.Tasks, cyclic(1, 1, r.Intn(len(p.Routines))))
	}
	for k, job := range jobSums(p) {
		period := min(job.Total, largestTime)*(1+r.Intn(2*tasks)) + r.Intn(job.Total%largestTime+20)
		p.Tasks[k].Period = min(period, largestTime)
		p.Tasks[k].Deadline = p.Tasks[k].Period
	}
	return p
}
