package tests

import (
	"fmt"
	"slices"
	"strings"
	"testing"

	"loop.example/g00684/impl"
)

// tickByRule is the reference for TickPlc; it takes a valid processor before its last time, and as many pins as there are.
func tickByRule(x impl.Plc, pins []bool) impl.Plc {
	y := copyOfPlc(x)
	if x.Mode == 2 {
		releaseByRule(&y, pins)
	}
	y.Data.Pins = slices.Clone(pins)
	if x.Mode == 2 {
		dispatchByRule(&y)
		if y.Busy {
			executeByRule(&y)
		}
	}
	y.Now++
	return y
}

func releaseByRule(y *impl.Plc, pins []bool) {
	for k, task := range y.Program.Tasks {
		due := pins[task.Pin] && !y.Data.Pins[task.Pin]
		if task.Kind == 1 {
			due = (y.Now-y.Since)%task.Period == 0
		}
		if due {
			y.Sources[k], _ = offerByRule(y.Sources[k], task, y.Now)
		}
	}
}

func dispatchByRule(y *impl.Plc) {
	if y.Busy {
		return
	}
	lowest := len(y.Program.Tasks)
	if n := len(y.Jobs); n > 0 {
		lowest = y.Jobs[n-1].Task
	}
	for k := range lowest {
		if s := &y.Sources[k]; len(s.Queue) > 0 {
			j := impl.Job{Task: k, Arrived: s.Queue[0], Started: y.Now, Phase: 1, Latched: pinsOn(), Outs: pinsOn(), First: pinsOn()}
			if routine := y.Program.Tasks[k].Routine; len(y.Program.Routines[routine].Code) > 0 {
				j.Core = coreOf(nil, frameAt(routine, 0))
			}
			s.Queue = s.Queue[1:]
			y.Jobs = append(y.Jobs, j)
			break
		}
	}
	y.Busy = len(y.Jobs) > 0
}

func executeByRule(y *impl.Plc) {
	last := len(y.Jobs) - 1
	j := &y.Jobs[last]
	switch j.Phase {
	case 1:
		j.Latched, j.Outs, j.First = slices.Clone(y.Data.Pins), slices.Clone(y.Data.Wires), slices.Clone(y.Data.Wires)
		j.Phase = 2
		if len(j.Core.Frames) == 0 {
			j.Phase = 3
		}
	case 2:
		if j.Left == 0 {
			stepByRules(y, j)
		}
		j.Left--
		if j.Left == 0 && len(j.Core.Frames) == 0 {
			j.Phase = 3
		}
	case 3:
		for i := range j.Outs {
			if j.Outs[i] != j.First[i] {
				y.Data.Wires[i] = j.Outs[i]
			}
		}
		y.Busy = false
		y.Sources[j.Task].Done = oneMore(y.Sources[j.Task].Done)
		y.Log = append(y.Log, impl.Done{Task: j.Task, Arrived: j.Arrived, Started: j.Started, Finished: y.Now + 1})
		if len(y.Log) > 40 {
			y.Log = y.Log[1:]
		}
		if y.Now+1-j.Arrived > y.Program.Tasks[j.Task].Deadline {
			y.Late = oneMore(y.Late)
		}
		y.Jobs = y.Jobs[:last]
	}
}

// stepByRules executes one instruction by StepCore, as chapter 12 has it.
func stepByRules(y *impl.Plc, j *impl.Job) {
	f := j.Core.Frames[len(j.Core.Frames)-1]
	if y.Program.Routines[f.Routine].Code[f.Pc].Op == 25 {
		y.Busy = false
	}
	d := copyOfData(y.Data)
	d.Latched, d.Outs = j.Latched, j.Outs
	d, j.Core, j.Left, _ = impl.StepCore(y.Program.Routines, d, j.Core, y.Now)
	j.Outs = d.Outs
	d.Latched, d.Outs = y.Data.Latched, y.Data.Outs
	y.Data = d
}

func wantTick(t *testing.T, x impl.Plc, pins []bool, want impl.Plc, wantCode int) {
	t.Helper()
	y, code := impl.TickPlc(x, pins)
	if code != wantCode || !equalPlcs(y, want) || code != impl.ErrLong && !impl.PlcOK(y) {
		t.Errorf("TickPlc(%s, %s) = %s, %d, want %s, %d", shown(x), brief(pins), shown(y), code, shown(want), wantCode)
	}
}

func checkTick(t *testing.T, x impl.Plc, pins []bool) {
	t.Helper()
	wantTick(t, x, pins, tickByRule(x, pins), impl.OK)
}

// tickOf returns the processor behind a tick, which is as the reference has it.
func tickOf(t *testing.T, x impl.Plc, pins []bool) impl.Plc {
	t.Helper()
	y, code := impl.TickPlc(x, pins)
	if want := tickByRule(x, pins); code != 0 || !equalPlcs(y, want) || !impl.PlcOK(y) {
		t.Fatalf("TickPlc(%v, %v) = %v, %d, want %v", x, pins, y, code, want)
	}
	return y
}

// stateOf shows the jobs with their phases, how many ticks an instruction still takes, and Busy.
func stateOf(x impl.Plc) string {
	var words []string
	for _, j := range x.Jobs {
		s := fmt.Sprint(j.Task, ":", []string{"", "latch", "code", "flush"}[j.Phase])
		if j.Left > 0 {
			s += fmt.Sprint("/", j.Left)
		}
		words = append(words, s)
	}
	if x.Busy {
		words = append(words, "busy")
	}
	return strings.Join(words, " ")
}

// A bench has a processor at work, tick by tick.
type bench struct {
	t   *testing.T
	plc impl.Plc
}

func benchOf(t *testing.T, p impl.Program) *bench {
	t.Helper()
	return &bench{t, started(t, p)}
}

func (b *bench) tick(on ...int) {
	b.t.Helper()
	b.plc = tickOf(b.t, b.plc, pinsOn(on...))
}

// ticks expects a state behind each of as many ticks, all with the same pins.
func (b *bench) ticks(on []int, states ...string) {
	b.t.Helper()
	for _, want := range states {
		b.tick(on...)
		if got := stateOf(b.plc); got != want {
			b.t.Fatalf("behind the tick at %d the state is %q, want %q", b.plc.Now-1, got, want)
		}
	}
}

func (b *bench) pass(n int, on ...int) {
	b.t.Helper()
	for range n {
		b.tick(on...)
	}
}

// wantLast expects the last entry of Log.
func (b *bench) wantLast(task, arrived, started, finished int) {
	b.t.Helper()
	n := len(b.plc.Log)
	if want := (impl.Done{Task: task, Arrived: arrived, Started: started, Finished: finished}); n == 0 || b.plc.Log[n-1] != want {
		b.t.Fatalf("at %d Log is %v, want %v at its end", b.plc.Now, b.plc.Log, want)
	}
}

func (b *bench) wantSource(k int, want impl.Source) {
	b.t.Helper()
	if got := b.plc.Sources[k]; !equalSources(got, want) {
		b.t.Fatalf("at %d source %d is %v, want %v", b.plc.Now, k, got, want)
	}
}

func (b *bench) wantWires(on ...int) {
	b.t.Helper()
	if !slices.Equal(b.plc.Data.Wires, pinsOn(on...)) {
		b.t.Fatalf("at %d Wires are %v, want those of %v", b.plc.Now, b.plc.Data.Wires, on)
	}
}

// oneRoutine has a block of each kind, and one routine for all tasks.
func oneRoutine(text string, tasks ...impl.Task) impl.Program {
	return programOf([]int{1, 2, 3, 4}, routinesOf(text), tasks...)
}

// ErrLong, ErrBad, ErrSize and ErrFull, each before the later ones.
func TestTickPlcErrors(t *testing.T) {
	last := func(x *impl.Plc) { x.Now = largestValue }
	for _, base := range []impl.Plc{busyPlc(), idlePlc(), restingPlc(), loaded(t, impl.DemoProgram())} {
		for _, n := range []int{0, 1, 7, 9, 16, 256, 264, longestList - 1, longestList} {
			wantTick(t, base, make([]bool, n), base, impl.ErrSize)
			wantTick(t, base, slices.Repeat([]bool{true}, n), base, impl.ErrSize)
			wantTick(t, changedPlc(base, last), make([]bool, n), changedPlc(base, last), impl.ErrSize)
		}
		wantTick(t, base, nil, base, impl.ErrSize)
		for _, n := range []int{longestList + 1, longestList + 2, 20000} {
			wantTick(t, base, make([]bool, n), impl.Plc{}, impl.ErrLong)
			wantTick(t, changedPlc(base, last), make([]bool, n), impl.Plc{}, impl.ErrLong)
		}
		wantTick(t, changedPlc(base, last), pinsOn(), changedPlc(base, last), impl.ErrFull)
		wantTick(t, changedPlc(base, last), pinsOn(0, 1, 7), changedPlc(base, last), impl.ErrFull)
		// One tick before there is still one left, and then none.
		x := changedPlc(base, func(x *impl.Plc) { x.Now = largestValue - 1 })
		y := tickOf(t, x, pinsOn(1))
		if y.Now != largestValue {
			t.Error("Now is", y.Now)
		}
		wantTick(t, y, pinsOn(1), y, impl.ErrFull)
	}
}

// The last tick can end a job, whose end is then the largest time.
func TestTickPlcAtItsEnd(t *testing.T) {
	x := changedPlc(idlePlc(), func(x *impl.Plc) {
		x.Now, x.Jobs = largestValue-1, []impl.Job{jobOf(2, largestValue-7, largestValue-6, 3, 0, impl.Core{})}
	})
	y := tickOf(t, x, pinsOn())
	if n := len(y.Log); y.Now != largestValue || y.Log[n-1] != (impl.Done{Task: 2, Arrived: largestValue - 7, Started: largestValue - 6, Finished: largestValue}) {
		t.Error("the last tick leaves", y)
	}
	// A timer at the last times
	b := &bench{t, changedPlc(started(t, oneRoutine("flag 1; push 1000; block 0; out 1", event(100, 100, 0, 1, 0))), func(x *impl.Plc) { x.Now, x.Since = largestValue-6, largestValue-6 })}
	b.pass(6, 0)
	if f := b.plc.Data.Blocks[0]; f.Start != largestValue-3 || b.plc.Now != largestValue || stateOf(b.plc) != "0:code busy" {
		t.Error("the timer is", f, "at", b.plc.Now, stateOf(b.plc))
	}
}

// A stopped processor changes nothing but its pins and its time.
func TestTickPlcWhileStopped(t *testing.T) {
	for _, x := range []impl.Plc{restingPlc(), loaded(t, busyProgram()), loaded(t, impl.DemoProgram())} {
		for bits := range 256 {
			want := changedPlc(x, func(x *impl.Plc) { x.Now, x.Data.Pins = x.Now+1, pinsByBits(bits) })
			wantTick(t, x, pinsByBits(bits), want, impl.OK)
			x = want
		}
	}
}

// A release is dispatched and executed at its own tick, at which the job latches the pins of that tick.
func TestOrderInATick(t *testing.T) {
	b := benchOf(t, oneRoutine("peek 0; out 0", cyclic(50, 50, 0)))
	b.ticks([]int{0, 3}, "0:code busy")
	j := b.plc.Jobs[0]
	if j.Arrived != 0 || j.Started != 0 || !slices.Equal(j.Latched, pinsOn(0, 3)) || b.plc.Sources[0].Arrived != 1 || len(b.plc.Sources[0].Queue) > 0 || b.plc.Now != 1 {
		t.Error("behind the first tick the job is", j, "and the source", b.plc.Sources[0])
	}
	// peek reads the pin of the tick at which it begins.
	b.ticks(nil, "0:code/1 busy")
	if j := b.plc.Jobs[0]; !slices.Equal(j.Core.Stack, []int{0}) || !slices.Equal(j.Latched, pinsOn(0, 3)) {
		t.Error("peek leaves", j)
	}
	b.ticks([]int{0}, "0:code busy", "0:flush busy", "")
	b.wantLast(0, 0, 0, 5)
	b.wantWires()
	// The same for a task that is released by an edge, and with a pin that is true only when peek begins.
	b = benchOf(t, oneRoutine("peek 0; out 0", event(50, 50, 5, 1, 0)))
	b.ticks(nil, "", "", "")
	b.ticks([]int{5}, "0:code busy")
	b.ticks([]int{0, 5}, "0:code/1 busy")
	b.ticks(nil, "0:code busy", "0:flush busy", "")
	b.wantLast(0, 3, 3, 8)
	b.wantWires(0)
	b.wantSource(0, impl.Source{Last: 3, Arrived: 1, Done: 1})
}

func TestCyclicReleases(t *testing.T) {
	for _, since := range []int{0, 1, 7, 9, 10, 1003} {
		x := loaded(t, oneRoutine("", cyclic(10, 10, 0)))
		x.Now = since
		x, _ = impl.StartPlc(x)
		b := &bench{t, x}
		for n := range 35 {
			b.tick([]int{n % 8, 7 - n%8}...)
			last := since + n/10*10
			want := impl.Source{Last: last, Arrived: n/10 + 1, Done: n / 10}
			if n%10 > 0 {
				want.Done++
			}
			b.wantSource(0, want)
			if (len(b.plc.Jobs) > 0) != (n%10 == 0) {
				t.Errorf("started at %d there are %d jobs at %d", since, len(b.plc.Jobs), b.plc.Now)
			}
		}
		for i, d := range b.plc.Log {
			if at := since + 10*i; d != (impl.Done{Arrived: at, Started: at, Finished: at + 2}) {
				t.Error("entry", i, "is", d)
			}
		}
	}
	// Since and the time of the release, written into a processor that is at work.
	for _, v := range []struct {
		since, now, period int
		due                bool
	}{{0, 1000, 10, true}, {0, 1000, 7, false}, {1, 1000, 9, true}, {1, 1000, 10, false}, {1000, 1000, 5000, true}, {999, 1000, 5000, false}, {999, 1000, 2, false}, {998, 1000, 2, true}, {0, 5000, 5000, true}, {0, 4999, 5000, false}, {0, 5001, 5000, false}} {
		x := started(t, oneRoutine("", cyclic(v.period, v.period, 0)))
		x.Since, x.Now = v.since, v.now
		y := tickOf(t, x, pinsOn())
		if (y.Sources[0].Arrived == 1) != v.due || (y.Sources[0].Last == v.now) != v.due {
			t.Error("at", v.now, "since", v.since, "with a period of", v.period, "the source is", y.Sources[0])
		}
	}
}

// Every pin, before and at the tick, alone and among others.
func TestEdgesOfPins(t *testing.T) {
	for pin := range 8 {
		p := oneRoutine("", event(2, 5000, pin, 4, 0))
		for _, others := range [][]bool{pinsOn(), pinsByBits(255)} {
			for edge := range 4 {
				x := started(t, p)
				before, now := slices.Clone(others), slices.Clone(others)
				slices.Reverse(before)
				before[pin], now[pin] = edge&1 > 0, edge&2 > 0
				x.Data.Pins = before
				y := tickOf(t, x, now)
				if (y.Sources[0].Arrived == 1) != (edge == 2) || len(y.Jobs) != asBit(edge == 2) || !slices.Equal(y.Data.Pins, now) {
					t.Errorf("pin %d from %t to %t has the source %v", pin, before[pin], now[pin], y.Sources[0])
				}
			}
		}
		for other := range 8 {
			x := started(t, p)
			if y := tickOf(t, x, pinsOn(other)); (y.Sources[0].Arrived > 0) != (other == pin) {
				t.Errorf("an edge at pin %d instead of pin %d has the source %v", other, pin, y.Sources[0])
			}
		}
	}
	// A pin that stays true has one edge; one that was true before the start has none.
	b := benchOf(t, oneRoutine("", event(2, 5000, 4, 4, 0)))
	b.pass(9, 4)
	b.wantSource(0, impl.Source{Last: 0, Arrived: 1, Done: 1})
	b.pass(1)
	b.pass(3, 4)
	b.wantSource(0, impl.Source{Last: 10, Arrived: 2, Done: 2})
	x := tickOf(t, loaded(t, oneRoutine("", event(2, 5000, 4, 4, 0))), pinsOn(4))
	x, _ = impl.StartPlc(x)
	b = &bench{t, x}
	b.pass(3, 4)
	b.wantSource(0, impl.NewSource())
	b.pass(2)
	b.pass(1, 4)
	b.wantSource(0, impl.Source{Last: 6, Arrived: 1})
}

// Two tasks of one pin, and two tasks whose pins rise at once.
func TestEdgesOfTwoTasks(t *testing.T) {
	for _, pins := range [][]int{{3, 3}, {3, 6}, {6, 3}} {
		b := benchOf(t, programOf(nil, routinesOf("cut", "cut; cut"), event(100, 100, pins[0], 1, 0), event(100, 100, pins[1], 1, 1)))
		b.ticks([]int{3, 6}, "0:code busy")
		b.wantSource(0, impl.Source{Last: 0, Arrived: 1})
		b.wantSource(1, impl.Source{Last: 0, Arrived: 1, Queue: []int{0}})
		b.ticks([]int{3, 6}, "0:flush", "", "1:code busy", "1:code", "1:flush", "")
		b.wantLast(1, 0, 3, 7)
	}
}

// A release too early is throttled, at each distance from the one before.
func TestThrottledReleases(t *testing.T) {
	for distance := 2; distance < 25; distance++ {
		b := benchOf(t, oneRoutine("", event(12, 5000, 2, 1, 0)))
		b.pass(1, 2)
		b.pass(distance - 1)
		b.pass(1, 2)
		want := impl.Source{Last: distance, Arrived: 2, Done: 1}
		if distance < 12 {
			want = impl.Source{Last: 0, Arrived: 2, Done: 1, Throttled: 1}
		}
		b.wantSource(0, want)
		if len(b.plc.Jobs) != asBit(distance >= 12) {
			t.Error("at a distance of", distance, "there are the jobs", b.plc.Jobs)
		}
	}
	// A throttled one begins no period.
	b := benchOf(t, oneRoutine("", event(12, 5000, 2, 1, 0)))
	for range 30 {
		b.pass(1, 2)
		b.pass(1)
	}
	b.wantSource(0, impl.Source{Last: 48, Arrived: 30, Done: 5, Throttled: 25})
}

// A full queue, which a processor that was loaded and started never has: the release is lost, also if a job starts at this tick.
func TestLostReleases(t *testing.T) {
	for _, busy := range []bool{false, true} {
		x := busyPlc()
		x.Jobs[3].Left, x.Busy = 0, busy
		x.Sources[0].Last, x.Now = 990, 1190
		x.Jobs = x.Jobs[:1+3*asBit(busy)]
		if busy {
			x.Jobs[3].Left = 2
		}
		for _, v := range []struct {
			now  int
			want impl.Source
		}{
			{1189, impl.Source{Throttled: 18, Lost: 11}}, {1190, impl.Source{Throttled: 17, Lost: 12}}, {5000, impl.Source{Throttled: 17, Lost: 12}},
		} {
			x.Now = v.now
			x.Data.Pins = pinsOn()
			y := tickOf(t, x, pinsOn(0))
			s := y.Sources[0]
			queue := []int{700, 980}
			if !busy {
				queue = queue[1:]
			}
			if s.Last != 990 || s.Arrived != 100 || s.Throttled != v.want.Throttled || s.Lost != v.want.Lost || !slices.Equal(s.Queue, queue) {
				t.Errorf("at %d, busy %t, the source becomes %v", v.now, busy, s)
			}
		}
		// With one place left it is accepted.
		x.Sources[0].Queue = []int{700}
		if y := tickOf(t, x, pinsOn(0)); y.Sources[0].Lost != 11 || y.Sources[0].Last != 5000 || len(y.Sources[0].Queue) != 1+asBit(busy) {
			t.Error("the source becomes", y.Sources[0])
		}
	}
	// A cyclic task whose release before is pending still
	x := changedPlc(busyPlc(), func(x *impl.Plc) { x.Now, x.Since, x.Sources[3].Last = 1300, 900, 900 })
	if y := tickOf(t, x, pinsOn()); y.Sources[3].Lost != 12 || y.Sources[3].Last != 900 || !slices.Equal(y.Sources[3].Queue, []int{900}) {
		t.Error("the source becomes", y.Sources[3])
	}
}

// threeTasks takes 9 ticks for a job of each task; the fourth of them is that of a cut.
func threeTasks() impl.Program {
	return programOf(nil, routinesOf("load 0; store 0; cut; load 0; store 0; load 0; store 0"), event(200, 200, 0, 1, 0), event(200, 200, 1, 1, 0), event(200, 200, 2, 1, 0))
}

// While Busy is set a task of higher priority waits; at the first tick at which it is not set, it starts.
func TestHigherTaskWhileBusy(t *testing.T) {
	for at := 1; at < 12; at++ {
		b := benchOf(t, threeTasks())
		b.pass(1, 2)
		b.pass(at - 1)
		b.pass(1, 0)
		b.pass(30)
		// The job of task 2 has a cut at 3; without another job it ends at 9.
		begin, end := 4, 18
		if at > 4 {
			begin, end = max(at, 9), 9
		}
		want := []impl.Done{{Task: 0, Arrived: at, Started: begin, Finished: begin + 9}, {Task: 2, Arrived: 0, Started: 0, Finished: end}}
		if end < begin+9 {
			slices.Reverse(want)
		}
		if !slices.Equal(b.plc.Log, want) {
			t.Errorf("a release at %d has the log %v, want %v", at, b.plc.Log, want)
		}
	}
	b := benchOf(t, threeTasks())
	b.ticks([]int{2}, "2:code busy", "2:code busy")
	b.ticks([]int{1, 2}, "2:code busy", "2:code", "2:code 1:code busy", "2:code 1:code busy")
	b.ticks([]int{0, 1, 2}, "2:code 1:code busy", "2:code 1:code", "2:code 1:code 0:code busy", "2:code 1:code 0:code busy", "2:code 1:code 0:code busy", "2:code 1:code 0:code",
		"2:code 1:code 0:code busy", "2:code 1:code 0:code busy", "2:code 1:code 0:code busy", "2:code 1:code 0:flush busy", "2:code 1:code")
	b.wantLast(0, 6, 8, 17)
	b.ticks(nil, "2:code 1:code busy", "2:code 1:code busy", "2:code 1:code busy", "2:code 1:flush busy", "2:code")
	b.wantLast(1, 2, 4, 22)
	b.ticks(nil, "2:code busy", "2:code busy", "2:code busy", "2:flush busy", "", "")
	b.wantLast(2, 0, 0, 27)
}

// A task of lower or of equal priority never starts above a job.
func TestLowerTasksWait(t *testing.T) {
	b := benchOf(t, threeTasks())
	b.ticks([]int{1}, "1:code busy")
	b.ticks([]int{1, 2}, "1:code busy", "1:code busy", "1:code", "1:code busy", "1:code busy", "1:code busy", "1:flush busy", "", "2:code busy")
	// The same task once more, released while its job is at its cut.
	p := programOf(nil, routinesOf("cut; cut", lasting(20)), event(10, 5000, 0, 4, 0), event(500, 500, 1, 1, 1))
	b = benchOf(t, p)
	b.pass(1, 1)
	b.pass(5, 0)
	b.pass(5)
	b.pass(9, 0)
	b.wantSource(0, impl.Source{Last: 11, Arrived: 2, Queue: []int{1, 11}})
	b.ticks(nil, "0:code busy")
	b.ticks([]int{0}, "0:code", "0:flush", "", "0:code busy", "0:code", "0:flush", "")
	b.wantLast(0, 11, 24, 28)
	b.ticks(nil, "0:code busy", "0:code", "0:flush", "")
	b.wantLast(0, 21, 28, 32)
}

// Of the pending tasks the one of highest priority starts, whatever the order of their releases.
func TestHighestTaskFirst(t *testing.T) {
	for _, order := range [][]int{{0, 1, 2}, {0, 2, 1}, {1, 0, 2}, {1, 2, 0}, {2, 0, 1}, {2, 1, 0}} {
		p := programOf(nil, routinesOf(lasting(10), lasting(2)), event(200, 200, 0, 1, 1), event(200, 200, 1, 1, 1), event(200, 200, 2, 1, 1), event(200, 200, 3, 1, 0))
		b := benchOf(t, p)
		b.pass(1, 3)
		for _, pin := range order {
			b.pass(1, pin)
		}
		b.pass(20)
		for i, d := range b.plc.Log[1:] {
			arrived := 1 + slices.Index(order, i)
			if d != (impl.Done{Task: i, Arrived: arrived, Started: 10 + 2*i, Finished: 12 + 2*i}) {
				t.Error("released in the order", order, "the log is", b.plc.Log)
			}
		}
	}
}

// The oldest release of a task starts first.
func TestReleasesInTheirOrder(t *testing.T) {
	p := programOf(nil, routinesOf("", lasting(20)), event(8, 5000, 0, 4, 0), event(500, 500, 1, 1, 1))
	b := benchOf(t, p)
	b.pass(1, 1)
	for n := range 17 {
		b.pass(1, []int{0}[min(n%8, 1):]...)
	}
	b.wantSource(0, impl.Source{Last: 17, Arrived: 3, Queue: []int{1, 9, 17}})
	b.pass(8)
	want := []impl.Done{{Task: 1, Finished: 20}, {Arrived: 1, Started: 20, Finished: 22}, {Arrived: 9, Started: 22, Finished: 24}, {Arrived: 17, Started: 24, Finished: 26}}
	if !slices.Equal(b.plc.Log, want) {
		t.Error("the log is", b.plc.Log, "want", want)
	}
	b.wantSource(0, impl.Source{Last: 17, Arrived: 3, Done: 3})
}
