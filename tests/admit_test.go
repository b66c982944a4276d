package tests

import (
	"fmt"
	"math/rand"
	"slices"
	"testing"

	"loop.example/g00684/impl"
)

func wantJob(t *testing.T, a, want impl.Summary) {
	t.Helper()
	got, code := impl.JobCost(a)
	wantSummary(t, fmt.Sprint("JobCost of ", a), got, code, want)
	if jobSummary(a) != want {
		t.Errorf("by rule JobCost of %v is %v, want %v", a, jobSummary(a), want)
	}
}

func TestJobCost(t *testing.T) {
	const most = 2147483647
	for _, v := range []struct{ a, want impl.Summary }{
		// without a cut
		{nothing(), summary(2, 2, -1, -1, -1)}, {summary(9, 9, -1, -1, -1), summary(11, 11, -1, -1, -1)}, {summary(9, 4, -1, -1, -1), summary(11, 6, -1, -1, -1)},
		// always with one
		{summary(1, -1, 1, 0, -1), summary(3, -1, 2, 1, -1)}, {summary(26, -1, 7, 1, 6), summary(28, -1, 8, 2, 6)}, {summary(9, -1, 0, 9, 9), summary(11, -1, 1, 10, 9)}, {summary(9, -1, 0, 0, 0), summary(11, -1, 1, 1, 0)},
		// with and without one
		{summary(30, 21, 8, 4, -1), summary(32, 23, 9, 5, -1)}, {summary(30, 0, 8, 4, 13), summary(32, 2, 9, 5, 13)}, {level(0), summary(2, 2, 1, 1, 0)}, {level(7), summary(9, 9, 8, 8, 7)},
		// near the largest value
		{summary(most-2, most-2, -1, -1, -1), summary(most, most, -1, -1, -1)}, {summary(most-1, most-1, -1, -1, -1), summary(most, most, -1, -1, -1)}, {summary(most, most, -1, -1, -1), summary(most, most, -1, -1, -1)},
		{level(most - 3), summary(most-1, most-1, most-2, most-2, most-3)}, {level(most - 2), summary(most, most, most-1, most-1, most-2)}, {level(most - 1), summary(most, most, most, most, most-1)}, {level(most), level(most)},
		{summary(most, -1, most, 0, -1), summary(most, -1, most, 1, -1)}, {summary(most, -1, 0, most, 3), summary(most, -1, 1, most, 3)}, {summary(most, 0, 0, 0, -1), summary(most, 2, 1, 1, -1)},
	} {
		wantJob(t, v.a, v.want)
	}
}

func TestJobCostOfManySummaries(t *testing.T) {
	r := rand.New(rand.NewSource(103))
	list := validSummaries()
	for total := range 6 {
		list = append(list, validSummariesOf(total)...)
	}
	for range 2000 {
		list = append(list, randomSummary(r))
	}
	side, _ := impl.OneCost(1, false)
	for _, a := range list {
		wantJob(t, a, jobSummary(a))
		wantJob(t, a, behind(t, behind(t, side, a), side))
		if got, _ := impl.JobCost(a); !impl.SummaryOK(got) {
			t.Errorf("JobCost of %v is %v, which is not valid", a, got)
		}
	}
}

func TestJobCostOfInvalidSummaries(t *testing.T) {
	for _, a := range invalidSummaries() {
		got, code := impl.JobCost(a)
		wantNoSummary(t, fmt.Sprint("JobCost of ", a), got, code, impl.ErrBad)
	}
}

// admitByRule is the reference for AdmitProgram; it takes a valid program.
func admitByRule(p impl.Program) ([]impl.Bound, int, int) {
	list, k, code := boundsByRule(p)
	if code != 0 {
		return nil, k, code
	}
	for k, x := range p.Tasks {
		if list[k].Bound > x.Deadline {
			return nil, k, impl.ErrLate
		}
		// More releases than the queue has room for, before the first one is done.
		if x.Queue*x.Period < list[k].Bound {
			return nil, k, impl.ErrFull
		}
	}
	return list, 0, impl.OK
}

func wantAdmit(t *testing.T, p impl.Program, want []impl.Bound, k, code int) {
	t.Helper()
	if list, i, c := impl.AdmitProgram(p); !slices.Equal(list, want) || i != k || c != code {
		t.Errorf("AdmitProgram(%s) = %v, %d, %d, want %v, %d, %d", brief(p), list, i, c, want, k, code)
	}
}

// checkAdmit takes a valid program.
func checkAdmit(t *testing.T, p impl.Program) ([]impl.Bound, int) {
	t.Helper()
	want, k, code := admitByRule(p)
	wantAdmit(t, p, want, k, code)
	return want, code
}

func wantAdmitted(t *testing.T, p impl.Program, want ...impl.Bound) {
	t.Helper()
	wantAdmit(t, p, want, 0, impl.OK)
	checkAdmit(t, p)
}

func wantRefusal(t *testing.T, p impl.Program, k, code int) {
	t.Helper()
	wantAdmit(t, p, nil, k, code)
	if _, i, c := admitByRule(p); i != k || c != code {
		t.Errorf("by rule %s has %d, %d, want %d, %d", brief(p), i, c, k, code)
	}
}

// easyProgram is admitted. Its tasks have 10, 4, 20, 6 and 8 ticks and the bounds of easyBounds.
func easyProgram() impl.Program {
	return programOf(nil, routinesOf(lasting(10), lasting(4), lasting(20), lasting(6), lasting(8)),
		event(100, 30, 0, 1, 0), event(100, 34, 1, 1, 1), event(100, 42, 2, 1, 2), event(100, 48, 3, 1, 3), event(100, 48, 4, 1, 4))
}

func easyBounds() []impl.Bound {
	return []impl.Bound{bound(10, 10, 20, 30), bound(4, 4, 20, 34), bound(20, 20, 8, 42), bound(6, 6, 8, 48), bound(8, 8, 0, 48)}
}

func TestAdmitProgram(t *testing.T) {
	wantAdmitted(t, easyProgram(), easyBounds()...)
	wantAdmitted(t, impl.DemoProgram(), bound(11, 11, 8, 19), bound(28, 8, 0, 39))
	wantAdmitted(t, programOf(nil, make([]impl.Routine, 1), cyclic(2, 2, 0)), bound(2, 2, 0, 2))
	wantAdmitted(t, programOf(nil, make([]impl.Routine, 1), event(2, 2, 7, 4, 0)), bound(2, 2, 0, 2))
	wantAdmitted(t, programOf(nil, routinesOf(lasting(5000)), cyclic(5000, 5000, 0)), bound(5000, 5000, 0, 5000))
}

// The deadlines of easyProgram are its bounds. One tick less is too early.
func TestAdmitLate(t *testing.T) {
	for k := range 5 {
		p := easyProgram()
		p.Tasks[k].Deadline--
		wantRefusal(t, p, k, impl.ErrLate)
		p.Tasks[k].Deadline = 1
		wantRefusal(t, p, k, impl.ErrLate)
		p.Tasks[k].Deadline = 5000
		wantAdmitted(t, p, easyBounds()...)
		p.Tasks[k] = cyclic(100, easyBounds()[k].Bound, k)
		wantAdmitted(t, p, easyBounds()...)
		p.Tasks[k].Deadline--
		wantRefusal(t, p, k, impl.ErrLate)
		for i := k + 1; i < 5; i++ {
			p.Tasks[i].Deadline--
			wantRefusal(t, p, k, impl.ErrLate)
		}
	}
}

// queued has a task of 2 ticks in 10 before one that blocks it for some ticks. It has a bound of 10 ticks for each
// element that the queue needs if blocking is 8, 16, 24 or 32, and of more with one tick more.
func queued(blocking, queue int) impl.Program {
	return programOf(nil, routinesOf("", lasting(blocking)), event(10, 5000, 0, queue, 0), cyclic(1000, 1000, 1))
}

func TestAdmitFull(t *testing.T) {
	for _, v := range []struct{ blocking, bound, needed int }{
		{2, 4, 1}, {7, 9, 1}, {8, 10, 1}, {9, 13, 2}, {10, 14, 2}, {15, 19, 2}, {16, 20, 2}, {17, 23, 3}, {23, 29, 3}, {24, 30, 3}, {25, 33, 4}, {31, 39, 4}, {32, 40, 4}, {33, 43, 5}, {40, 50, 5},
	} {
		for queue := 1; queue <= 4; queue++ {
			p := queued(v.blocking, queue)
			if queue >= v.needed {
				wantAdmitted(t, p, bound(2, 2, v.blocking, v.bound), bound(v.blocking, v.blocking, 0, v.bound))
			} else {
				wantRefusal(t, p, 0, impl.ErrFull)
			}
			p.Tasks[0].Deadline = v.bound
			checkAdmit(t, p)
			p.Tasks[0].Deadline = v.bound - 1
			wantRefusal(t, p, 0, impl.ErrLate)
		}
	}
	// for each task of several
	for k := range 5 {
		p := easyProgram()
		for i := range 5 {
			p.Tasks[i].Deadline = 5000
		}
		p.Tasks[k].Period = easyBounds()[k].Bound
		if _, code := checkAdmit(t, p); k == 4 && code != 0 {
			t.Error("the last task has", code)
		}
		p.Tasks[k].Period--
		wantRefusal(t, p, k, impl.ErrFull)
		p.Tasks[k].Queue = 2
		if list, code := checkAdmit(t, p); code != 0 || k > 0 && !slices.Equal(list[:k], easyBounds()[:k]) {
			t.Error("with a longer queue the result is", list, code)
		}
	}
}

// Of the errors of one task ErrLate comes first, and those of a task come before those of the next one.
func TestAdmitInTurn(t *testing.T) {
	late := func(p *impl.Program, k int) { p.Tasks[k].Deadline = 1 }
	full := func(p *impl.Program, k int) { p.Tasks[k].Period = easyBounds()[k].Bound - 1 }
	changes := []struct {
		change func(*impl.Program, int)
		code   int
	}{{late, impl.ErrLate}, {full, impl.ErrFull}}
	for k := range 5 {
		for _, v := range changes {
			p := easyProgram()
			for i := range 5 {
				p.Tasks[i].Deadline = 5000
			}
			v.change(&p, k)
			wantRefusal(t, p, k, v.code)
			for i := k + 1; i < 5; i++ {
				late(&p, i)
				wantRefusal(t, p, k, v.code)
			}
			for i := k + 1; i < 5; i++ {
				p.Tasks[i].Deadline = 5000
			}
			if k < 4 {
				p.Tasks[k+1].Period = 48
				wantRefusal(t, p, k, v.code)
			}
			late(&p, k)
			wantRefusal(t, p, k, impl.ErrLate)
		}
	}
}

func TestAdmitOverloads(t *testing.T) {
	for _, v := range overloads() {
		wantRefusal(t, v.program, v.k, impl.ErrLoad)
		// beside tasks that are late, and beside tasks of which none is
		for _, deadline := range []int{1, 5000} {
			wantRefusal(t, changedProgram(v.program, func(p *impl.Program) {
				for k, x := range p.Tasks {
					p.Tasks[k] = event(x.Period, deadline, k, 1, x.Routine)
				}
			}), v.k, impl.ErrLoad)
		}
	}
	for k := range 5 {
		// The load of the last task comes before a task before it that is late, and one that is full.
		p := easyProgram()
		p.Tasks[k].Deadline = 1
		p.Tasks[4].Period = 8
		wantRefusal(t, p, 4, impl.ErrLoad)
		p = easyProgram()
		p.Tasks[k].Period, p.Tasks[k].Deadline = easyBounds()[k].Bound-1, 5000
		p.Routines[4].Code = parse(lasting(5001))
		wantRefusal(t, p, 4, impl.ErrLoad)
	}
}

func TestAdmitInvalidPrograms(t *testing.T) {
	for _, p := range invalidPrograms() {
		wantAdmit(t, p, nil, 0, impl.ErrBad)
	}
	worse := []func(*impl.Program){
		func(p *impl.Program) { p.Tasks[4].Period = 8 },
		func(p *impl.Program) { p.Routines[4].Code = parse(lasting(5001)) },
		func(p *impl.Program) { p.Tasks[0].Deadline = 1 },
		func(p *impl.Program) { p.Tasks[0].Deadline, p.Tasks[0].Period = 5000, 29 },
	}
	for _, change := range worse {
		p := changedProgram(easyProgram(), change)
		if _, code := checkAdmit(t, p); code == 0 {
			t.Error("there is nothing worse in", brief(p))
		}
		wantAdmit(t, changedProgram(p, func(p *impl.Program) { p.Tasks[4].Kind = 3 }), nil, 0, impl.ErrBad)
		wantAdmit(t, changedProgram(p, func(p *impl.Program) { p.Safe = nil }), nil, 0, impl.ErrBad)
		wantAdmit(t, changedProgram(p, func(p *impl.Program) { p.Kinds = []int{0} }), nil, 0, impl.ErrBad)
		wantAdmit(t, changedProgram(p, func(p *impl.Program) { p.Routines[0].Code = parse("end") }), nil, 0, impl.ErrBad)
		wantAdmit(t, changedProgram(p, func(p *impl.Program) { p.Tasks[3].Routine = 5 }), nil, 0, impl.ErrBad)
	}
}

// atLimits moves deadlines to the bounds and next to them, and takes queues that are just long enough or not.
func atLimits(r *rand.Rand, p *impl.Program) {
	list, _, code := boundsByRule(*p)
	if code != 0 {
		return
	}
	for k := range p.Tasks {
		x := &p.Tasks[k]
		needed := 1
		for needed*x.Period < list[k].Bound {
			needed++
		}
		if needed > 1 || r.Intn(2) > 0 {
			*x = event(x.Period, largestTime, r.Intn(8), min(needed, 4), x.Routine)
			if r.Intn(8) == 0 {
				x.Queue = max(x.Queue-1, 1)
			}
		}
		if deadline := list[k].Bound - r.Intn(8)/7; r.Intn(2) > 0 && deadline > 0 && (x.Kind == 2 || deadline <= x.Period) {
			x.Deadline = deadline
		}
	}
}

func TestAdmitDrawnPrograms(t *testing.T) {
	r := rand.New(rand.NewSource(104))
	seen := map[int]int{}
	for range 3000 {
		p := drawnProgram(r)
		if r.Intn(4) > 0 {
			atLimits(r, &p)
		}
		if k, code := impl.CheckProgram(p); code != 0 {
			t.Fatalf("%v is not valid: %d, %d", p, k, code)
		}
		bounds, code := checkBounds(t, p)
		list, code2 := checkAdmit(t, p)
		seen[code2]++
		if code != 0 && code2 != code || code2 == 0 && !slices.Equal(list, bounds) {
			t.Errorf("the bounds of %v are %v, %d, and if it is to be admitted %v, %d", p, bounds, code, list, code2)
		}
		checkOrder(t, p, bounds)
		checkLoad(t, p)
	}
	for code, least := range map[int]int{impl.OK: 500, impl.ErrLoad: 200, impl.ErrLate: 200, impl.ErrFull: 50} {
		if seen[code] < least {
			t.Error("code", code, "was seen", seen[code], "times")
		}
	}
	for range 500 {
		p := mixedProgram(r)
		checkBounds(t, p)
		checkAdmit(t, p)
		checkLoad(t, p)
	}
}

// checkOrder compares each task with the next one.
func checkOrder(t *testing.T, p impl.Program, list []impl.Bound) {
	t.Helper()
	for k, b := range list {
		if b.Longest > b.Cost || b.Bound < b.Cost+b.Blocking {
			t.Errorf("bound %d of %v is %v", k, p, b)
		}
		if k == len(list)-1 {
			if b.Blocking != 0 {
				t.Errorf("the last task of %v is blocked: %v", p, b)
			}
		} else if next := list[k+1]; b.Blocking < next.Blocking || b.Blocking < next.Longest || b.Bound > next.Bound {
			t.Errorf("the bounds %d of %v are %v and then %v", k, p, b, next)
		}
	}
}

// In an admitted program no bound is above a deadline, and the releases up to a bound have room in the queue. With all
// tasks released at once, and with a section of the longest that blocks, all work of a task and of those before it is done by its bound.
func TestAdmittedPrograms(t *testing.T) {
	r := rand.New(rand.NewSource(105))
	admitted := 0
	for range 2000 {
		p := drawnProgram(r)
		atLimits(r, &p)
		list, _, code := impl.AdmitProgram(p)
		if code != 0 {
			continue
		}
		admitted++
		var costs, periods []int
		for k, x := range p.Tasks {
			b := list[k]
			costs, periods = append(costs, b.Cost), append(periods, x.Period)
			if b.Bound > x.Deadline || (b.Bound+x.Period-1)/x.Period > x.Queue {
				t.Errorf("%v is admitted with the bounds %v", p, list)
			}
			if n := workedOff(costs, periods, b.Blocking); n != b.Bound {
				t.Errorf("the work of task %d of %v is done at %d, the bounds are %v", k, p, n, list)
			}
		}
	}
	if admitted < 500 {
		t.Error(admitted, "programs were admitted")
	}
}

// No execution of a job takes longer than its Cost, and no section of it longer than its Longest.
func TestBoundsOfExecutions(t *testing.T) {
	r := rand.New(rand.NewSource(106))
	reached := 0
	for range 500 {
		p := drawnProgram(r)
		list, code := impl.BoundsOf(p)
		if code != 0 {
			continue
		}
		for k, x := range p.Tasks {
			longest := impl.Bound{}
			for range 10 {
				sections := sectionsOf(p.Routines[:x.Routine+1], byChance(r))
				sections[0]++
				sections[len(sections)-1]++
				total := 0
				for _, n := range sections {
					total += n
				}
				longest = bound(max(longest.Cost, total), max(longest.Longest, slices.Max(sections)), 0, 0)
			}
			if longest.Cost > list[k].Cost || longest.Longest > list[k].Longest {
				t.Fatalf("a job of task %d of %v takes %v, its bounds are %v", k, p, longest, list[k])
			}
			if longest.Cost == list[k].Cost && longest.Longest == list[k].Longest {
				reached++
			}
		}
	}
	if reached < 300 {
		t.Error("the bounds were reached", reached, "times")
	}
}

func wantLoad(t *testing.T, p impl.Program, n, code int) {
	t.Helper()
	if got, c := impl.LoadOf(p); got != n || c != code {
		t.Errorf("LoadOf(%s) = %d, %d, want %d, %d", brief(p), got, c, n, code)
	}
}

// checkLoad takes a valid program; each share is the least that is not below 1000 times Cost / Period.
func checkLoad(t *testing.T, p impl.Program) {
	t.Helper()
	sum := 0
	for k, job := range jobSums(p) {
		share := 1000 * job.Total / p.Tasks[k].Period
		if share*p.Tasks[k].Period < 1000*job.Total {
			share++
		}
		sum += share
	}
	wantLoad(t, p, sum, impl.OK)
}

func TestLoadOf(t *testing.T) {
	for _, v := range []struct {
		text         string
		period, want int
	}{
		{"", 2, 1000}, {"", 3, 667}, {"", 7, 286}, {"", 1, 2000}, {"", 4, 500}, {"", 1000, 2}, {"", 1999, 2}, {"", 2000, 1}, {"", 2001, 1}, {"", 5000, 1}, {"", 1001, 2}, {"", 999, 3},
		{lasting(11), 40, 275}, {lasting(28), 100, 280}, {lasting(9), 9, 1000}, {lasting(10), 9, 1112}, {lasting(5000), 5000, 1000}, {lasting(5000), 4999, 1001}, {lasting(4999), 5000, 1000}, {lasting(4996), 5000, 1000}, {lasting(4995), 5000, 999},
		{lasting(5001), 5000, 1001}, {lasting(5000), 1, 5000000}, {"repeat 20; repeat 20; repeat 20; repeat 20; end; end; end; end", 1, 176843000},
	} {
		p := programOf(nil, routinesOf(v.text), event(v.period, 1, 0, 1, 0))
		wantLoad(t, p, v.want, impl.OK)
		checkLoad(t, p)
		// Each task is rounded by itself.
		for n := 2; n <= 5; n++ {
			p.Tasks = append(p.Tasks, p.Tasks[0])
			wantLoad(t, p, n*v.want, impl.OK)
		}
	}
	p := programOf(nil, routinesOf("", lasting(5)), cyclic(3, 1, 0), event(7, 1, 0, 1, 1), cyclic(3, 3, 1), cyclic(5000, 1, 0))
	wantLoad(t, p, 667+715+1667+1, impl.OK)
	wantLoad(t, easyProgram(), 480, impl.OK)
	wantLoad(t, impl.DemoProgram(), 555, impl.OK)
	// the longest of all routines, in every task
	huge := "repeat 20; repeat 20; repeat 20; repeat 20; call 0; end; end; end; end"
	p = programOf(nil, routinesOf(waiting(5000), huge), slices.Repeat([]impl.Task{cyclic(1, 1, 1)}, 5)...)
	if job := jobSums(p)[0]; job.Total != 800496843 {
		t.Error("the cost is", job)
	}
	wantLoad(t, p, 5*800496843000, impl.OK)
	p.Routines = append(p.Routines, impl.Routine{Code: parse("call 1; call 1; call 1")})
	for k := range p.Tasks {
		p.Tasks[k].Routine = 2
	}
	wantLoad(t, p, 5*2147483647000, impl.OK)
	p.Tasks = p.Tasks[:1]
	p.Tasks[0].Period = 3
	wantLoad(t, p, 715827882334, impl.OK)
}

// A load has no limit, and no deadline or queue matters to it.
func TestLoadOfOverloads(t *testing.T) {
	for _, v := range overloads() {
		checkLoad(t, v.program)
		wantLoad(t, changedProgram(v.program, func(p *impl.Program) { p.Safe = p.Safe[1:] }), 0, impl.ErrBad)
	}
	for blocking := 4; blocking < 50; blocking++ {
		wantLoad(t, queued(blocking, 1), 200+blocking, impl.OK)
	}
}

func TestLoadOfInvalidPrograms(t *testing.T) {
	for _, p := range invalidPrograms() {
		wantLoad(t, p, 0, impl.ErrBad)
	}
}
