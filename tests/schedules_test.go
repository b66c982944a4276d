package tests

import (
	"math/rand"
	"slices"
	"testing"

	"loop.example/g00684/impl"
)

// insertCuts puts cuts at any places, which changes neither the types nor the nesting.
func insertCuts(r *rand.Rand, list []impl.Routine) {
	for k := range list {
		code := &list[k].Code
		for n := r.Intn(len(*code) + 1); n > 0 && len(*code) < 40; n-- {
			*code = slices.Insert(*code, r.Intn(len(*code)+1), impl.Instr{Op: 25})
		}
	}
}

// sectionsProgram has a routine of several short sections for each task, all but the last of which are events of short periods.
func sectionsProgram(r *rand.Rand) impl.Program {
	p := programOf(randomKinds(r), nil)
	tasks := 2 + r.Intn(4)
	for k := range tasks {
		var code []impl.Instr
		for range 1 + r.Intn(4) {
			code = slices.Concat(code, acceptedCode(r, p.Kinds, k, r.Intn(7)), parse("cut"))
		}
		p.Routines = append(p.Routines, impl.Routine{Code: append(code, acceptedCode(r, p.Kinds, k, r.Intn(7))...)})
		p.Tasks = append(p.Tasks, event(1, largestTime, r.Intn(8), 4, r.Intn(k+1)))
	}
	for k, job := range jobSums(p) {
		p.Tasks[k].Period = min(job.Total*(tasks+r.Intn(tasks))+r.Intn(10), largestTime)
	}
	last := p.Tasks[tasks-1]
	p.Tasks[tasks-1] = cyclic(last.Period, last.Period, last.Routine)
	return p
}

// admittedProgram is drawn until it is admitted; many of its deadlines are at the bounds.
func admittedProgram(r *rand.Rand) impl.Program {
	for {
		p := drawnProgram(r)
		switch r.Intn(4) {
		case 0:
			insertCuts(r, p.Routines)
		case 1, 2:
			p = sectionsProgram(r)
		}
		if r.Intn(4) > 0 {
			atLimits(r, &p)
		}
		p.Safe = drawnPins(r)
		if _, _, code := admitByRule(p); code == 0 {
			return p
		}
	}
}

// mixedPlc is a valid processor without regularity, which need not be one that comes of a start.
func mixedPlc(r *rand.Rand) impl.Plc {
	p := admittedProgram(r)
	now := []int{r.Intn(10), r.Intn(6000), r.Intn(1 << 31), largestValue - r.Intn(100)}[r.Intn(4)]
	x := impl.Plc{Program: p, Data: mixedData(r, p.Kinds), Mode: 1 + min(r.Intn(6), 1), Now: now, Since: upTo(r, now), Late: []int{0, r.Intn(100), largestValue - 1, largestValue}[r.Intn(4)]}
	for k, task := range p.Tasks {
		x.Sources = append(x.Sources, mixedSource(r, task, now, x.Mode == 2))
		x.Log = append(x.Log, impl.Done{Task: k})
	}
	for range r.Intn(40 - len(x.Log)) {
		d := impl.Done{Task: r.Intn(len(p.Tasks)), Finished: upTo(r, now)}
		d.Finished = max(d.Finished, x.Log[len(x.Log)-1].Finished)
		d.Started = upTo(r, d.Finished)
		d.Arrived = upTo(r, d.Started)
		x.Log = append(x.Log, d)
	}
	if x.Mode == 1 {
		copy(x.Data.Wires, p.Safe)
		return x
	}
	for task := len(p.Tasks) - 1; task >= 0; task-- {
		if r.Intn(2) > 0 {
			x.Jobs = append(x.Jobs, mixedJob(r, p, task, now))
		}
	}
	if n := len(x.Jobs); n > 0 {
		x.Busy = r.Intn(4) > 0
		if j := &x.Jobs[n-1]; x.Busy && j.Phase == 2 && r.Intn(2) > 0 {
			j.Left = 1 + r.Intn(3)
			if r.Intn(4) == 0 {
				j.Core = impl.Core{}
			}
		}
	}
	return x
}

// upTo draws a number from 0 to n, which is often near n.
func upTo(r *rand.Rand, n int) int {
	return []int{r.Intn(n + 1), max(n-r.Intn(20), 0), n}[r.Intn(3)]
}

func mixedSource(r *rand.Rand, task impl.Task, now int, running bool) impl.Source {
	x := sourceOf(upTo(r, now))
	for running && len(x.Queue) < task.Queue && r.Intn(2) > 0 {
		x.Queue = append(x.Queue, upTo(r, x.Last))
	}
	slices.Sort(x.Queue)
	x.Queue = slices.Compact(x.Queue)
	for _, n := range sourceFields(&x)[1:] {
		if r.Intn(4) == 0 {
			*n = largestValue - r.Intn(2)
		}
	}
	if len(x.Queue) == 0 && r.Intn(4) == 0 {
		x.Last = -1
	}
	return x
}

func mixedJob(r *rand.Rand, p impl.Program, task, now int) impl.Job {
	k := p.Tasks[task].Routine
	j := jobOf(task, 0, upTo(r, now), 3, 0, impl.Core{})
	j.Arrived = upTo(r, j.Started)
	j.Latched, j.Outs, j.First = drawnPins(r), drawnPins(r), drawnPins(r)
	switch {
	case r.Intn(6) == 0:
		j.Phase = 1
		if len(p.Routines[k].Code) > 0 {
			j.Core = coreOf(nil, frameAt(k, 0))
		}
	case r.Intn(5) > 0 && len(p.Routines[k].Code) > 0:
		if j.Core = mixedCoreOf(r, p.Routines, p.Kinds, k); len(j.Core.Frames) > 0 {
			j.Phase = 2
		}
	}
	return j
}

// P12: whatever a valid processor is, it stays valid, and does what the reference does.
func TestTicksOfMixedPlcs(t *testing.T) {
	r := rand.New(rand.NewSource(161))
	jobs, ended, lost := 0, 0, 0
	for range 2000 {
		x := mixedPlc(r)
		wantPlc(t, x, true)
		first := x
		pins := drawnPins(r)
		for n := range min(30, largestValue-x.Now) {
			if r.Intn(3) > 0 {
				pins = drawnPins(r)
			}
			x = tickOf(t, x, pins)
			if n%8 == 7 && !plcByRule(x) {
				t.Fatal("not valid:", x)
			}
			jobs += asBit(len(x.Jobs) > 1)
		}
		ended += asBit(!slices.Equal(x.Log, first.Log))
		for k := range x.Sources {
			lost += asBit(x.Sources[k].Lost > first.Sources[k].Lost)
		}
	}
	if jobs < 10000 || ended < 700 || lost < 70 {
		t.Error("ticks with several jobs:", jobs, "processors with jobs that ended:", ended, "and sources with lost releases:", lost)
	}
}

// P12 and P13: ticks, scripts, starts and stops in any order. While a processor is stopped its outputs are Safe.
func TestPlcsStayValid(t *testing.T) {
	r := rand.New(rand.NewSource(162))
	starts, stops := 0, 0
	for i := range 400 {
		x := loaded(t, admittedProgram(r))
		if i%2 > 0 {
			x = mixedPlc(r)
		}
		for range 40 {
			if x.Now > largestValue-100 {
				break
			}
			switch r.Intn(6) {
			case 0:
				if y, code := impl.StartPlc(x); code == impl.OK {
					checkStart(t, x)
					x, starts = y, starts+1
				}
			case 1:
				if y, code := impl.StopPlc(x); code == impl.OK {
					checkStop(t, x)
					x, stops = y, stops+1
				}
			case 2:
				x = runOf(t, x, drawnScript(r, r.Intn(60)))
			case 3:
				a, b := drawnScript(r, r.Intn(40)), drawnScript(r, r.Intn(40))
				whole := runOf(t, x, slices.Concat(a, b))
				x = runOf(t, runOf(t, x, a), b)
				wantSamePlc(t, x, whole, true)
			default:
				x = tickOf(t, x, drawnPins(r))
			}
			if x.Mode == 1 && !slices.Equal(x.Data.Wires, x.Program.Safe) {
				t.Fatal("the outputs of a stopped processor are", x.Data.Wires, "and not", x.Program.Safe)
			}
		}
		if !plcByRule(x) {
			t.Fatal("not valid:", x)
		}
	}
	if starts < 500 || stops < 500 {
		t.Error("starts:", starts, "stops:", stops)
	}
}

// P13: whatever the inputs of a stopped processor are, and whatever it did before
func TestSafeOutputs(t *testing.T) {
	r := rand.New(rand.NewSource(163))
	for range 100 {
		p := admittedProgram(r)
		x := loaded(t, p)
		for range 4 {
			for range 30 {
				y, _ := impl.TickPlc(x, drawnPins(r))
				if want := changedPlc(x, func(x *impl.Plc) { x.Now, x.Data.Pins = y.Now, y.Data.Pins }); !equalPlcs(y, want) || !slices.Equal(y.Data.Wires, p.Safe) {
					t.Fatal("a stopped processor becomes", y, "from", x)
				}
				x = y
			}
			x, _ = impl.RunPlc(x, drawnScript(r, 500))
			if !slices.Equal(x.Data.Wires, p.Safe) {
				t.Fatal("the outputs are", x.Data.Wires, "and not", p.Safe)
			}
			x, _ = impl.StartPlc(x)
			x, _ = impl.RunPlc(x, drawnScript(r, 1+r.Intn(400)))
			x, _ = impl.StopPlc(x)
			if !slices.Equal(x.Data.Wires, p.Safe) {
				t.Fatal("behind a stop the outputs are", x.Data.Wires, "and not", p.Safe)
			}
		}
	}
}

// A watch follows a processor that was loaded, and keeps what its jobs were.
type watch struct {
	t       *testing.T
	plc     impl.Plc
	bounds  []impl.Bound
	release []map[int]bool // of each task, those since the last start that were accepted and are not done
	order   []int          // of each task, the release whose job ended last
	jobs    int            // that ended
	close   int            // of these, those that ended at their bound or one tick before it
}

func watchOf(t *testing.T, p impl.Program) *watch {
	t.Helper()
	bounds, _, code := boundsByRule(p)
	if code != 0 {
		t.Fatal("there are no bounds of", p)
	}
	w := &watch{t: t, plc: loaded(t, p), bounds: bounds}
	for range p.Tasks {
		w.release, w.order = append(w.release, map[int]bool{}), append(w.order, -1)
	}
	return w
}

func (w *watch) want(holds bool, what string, k int) {
	w.t.Helper()
	if !holds {
		w.t.Fatalf("%s, task %d with the bounds %v: %v", what, k, w.bounds, w.plc)
	}
}

func (w *watch) start() {
	y, code := impl.StartPlc(w.plc)
	w.plc = y
	w.want(code == impl.OK, "no start", -1)
}

func (w *watch) stop() {
	y, code := impl.StopPlc(w.plc)
	for k := range w.release {
		dropped := y.Sources[k].Dropped - w.plc.Sources[k].Dropped
		w.want(code == impl.OK && dropped == len(w.release[k]), "the dropped releases", k)
		clear(w.release[k])
	}
	w.plc = y
}

// tick is about promises 14 and 15, which it checks without those functions of the program that are about them.
func (w *watch) tick(pins []bool) {
	w.t.Helper()
	before := w.plc
	y, code := impl.TickPlc(before, pins)
	w.plc = y
	w.want(code == impl.OK && impl.PlcOK(y), "a valid processor", -1)
	w.want(y.Late == 0, "nothing late", -1)
	for k, task := range y.Program.Tasks {
		s, old := y.Sources[k], before.Sources[k]
		w.want(s.Lost == 0, "nothing lost", k)
		if s.Last != old.Last {
			w.want(s.Last == before.Now, "the time of a release", k)
			w.release[k][s.Last] = true
		}
		due := task.Kind == 1 && (before.Now-before.Since)%task.Period == 0
		if task.Kind == 2 {
			due = pins[task.Pin] && !before.Data.Pins[task.Pin]
		}
		due = due && before.Mode == 2
		w.want(s.Arrived == old.Arrived+asBit(due), "a release that is due", k)
		w.want(task.Kind == 2 || s.Throttled == 0 && (!due || s.Last == before.Now), "a release of a cyclic task", k)
		if s.Done > old.Done {
			w.ended(k, y.Log[len(y.Log)-1])
		}
		jobs := slices.ContainsFunc(y.Jobs, func(j impl.Job) bool { return j.Task == k })
		w.want(s.Arrived == s.Done+s.Throttled+s.Dropped+len(s.Queue)+asBit(jobs), "the sum of all releases", k)
		w.want(len(w.release[k]) == len(s.Queue)+asBit(jobs), "the releases that are not done", k)
		for at := range w.release[k] {
			w.want(y.Now < at+w.bounds[k].Bound, "a job that has ended by its bound", k)
		}
	}
}

func (w *watch) ended(k int, d impl.Done) {
	w.t.Helper()
	w.want(d.Task == k && d.Finished == w.plc.Now && w.release[k][d.Arrived], "an entry of the log", k)
	delete(w.release[k], d.Arrived)
	w.want(d.Arrived > w.order[k], "the order of the jobs", k)
	w.order[k] = d.Arrived
	response := d.Finished - d.Arrived
	w.want(response <= w.bounds[k].Bound && response <= w.plc.Program.Tasks[k].Deadline, "a response time", k)
	w.jobs++
	w.close += asBit(response >= w.bounds[k].Bound-1)
}

// An input yields the pins of the next tick, which may depend on the processor.
type input func(x impl.Plc) []bool

// drawnInput lets each pin be off, change with every tick, change by chance or rise in a period; or all of them rise when a section of
// the task of lowest priority begins, or behind a cut.
func drawnInput(r *rand.Rand, p impl.Program) input {
	var ways, periods [8]int
	for i := range ways {
		ways[i], periods[i] = r.Intn(5), 2+r.Intn(60)
	}
	for _, task := range p.Tasks {
		if task.Kind == 2 && r.Intn(2) > 0 {
			ways[task.Pin], periods[task.Pin] = 3, task.Period
		}
	}
	way, busy := r.Intn(3), false
	return func(x impl.Plc) []bool {
		switch way {
		case 0:
			begins := !busy && x.Busy
			busy = x.Busy
			return slices.Repeat([]bool{begins && x.Jobs[len(x.Jobs)-1].Task == len(p.Tasks)-1}, 8)
		case 1:
			return slices.Repeat([]bool{len(x.Jobs) > 0 && !x.Busy && r.Intn(4) > 0}, 8)
		}
		pins := pinsOn()
		for i := range pins {
			pins[i] = []bool{false, !x.Data.Pins[i], r.Intn(3) == 0, x.Now%periods[i] == 0, r.Intn(30) == 0}[ways[i]]
		}
		return pins
	}
}

// P14 and P15: tick by tick.
func TestBoundsHold(t *testing.T) {
	r := rand.New(rand.NewSource(164))
	jobs, several, near := 0, 0, 0
	for range 120 {
		p := admittedProgram(r)
		w := watchOf(t, p)
		next := drawnInput(r, p)
		w.start()
		for range 800 {
			w.tick(next(w.plc))
			several += asBit(len(w.plc.Jobs) > 1)
			if r.Intn(300) == 0 {
				w.stop()
				for range r.Intn(10) {
					w.tick(next(w.plc))
				}
				w.start()
			}
		}
		jobs, near = jobs+w.jobs, near+w.close
	}
	if jobs < 3000 || several < 4000 || near < 300 {
		t.Error("jobs:", jobs, "ticks with several of them:", several, "and jobs that ended at their bounds:", near)
	}
}

// P14: long runs, in parts in which no more jobs end than Log has room for.
func TestBoundsHoldForLong(t *testing.T) {
	r := rand.New(rand.NewSource(165))
	jobs, throttled := 0, 0
	for range 60 {
		p := admittedProgram(r)
		bounds, _, _ := boundsByRule(p)
		x := started(t, p)
		for part := range 120 {
			script := drawnScript(r, 80)
			if part%3 == 0 {
				for i := range script {
					script[i] = slices.Repeat([]bool{i%2 == part/3%2}, 8)
				}
			}
			before := x
			x, _ = impl.RunPlc(x, script)
			ended := 0
			for k, s := range x.Sources {
				ended += s.Done - before.Sources[k].Done
				if s.Lost > 0 {
					t.Fatal("a release was lost:", x)
				}
			}
			jobs += ended
			if !impl.PlcOK(x) || x.Late > 0 || ended > len(x.Log) {
				t.Fatal("the processor becomes", x)
			}
			for _, d := range x.Log {
				if d.Finished-d.Arrived > bounds[d.Task].Bound {
					t.Fatalf("the job %v has a response time above its bound %v: %v", d, bounds, p)
				}
			}
		}
		for _, s := range x.Sources {
			throttled += s.Throttled
		}
	}
	if jobs < 10000 || throttled < 10000 {
		t.Error("jobs:", jobs, "throttled releases:", throttled)
	}
}

// P15: each job of a cyclic task, from its release on.
func TestCyclicTasksEndInTime(t *testing.T) {
	r := rand.New(rand.NewSource(166))
	releases := 0
	for range 150 {
		p := admittedProgram(r)
		bounds, _, _ := boundsByRule(p)
		x := started(t, p)
		ends := map[impl.Done]int{}
		for range 20 {
			x, _ = impl.RunPlc(x, drawnScript(r, 80))
			for _, d := range x.Log {
				ends[impl.Done{Task: d.Task, Arrived: d.Arrived}] = d.Finished
			}
		}
		for k, task := range p.Tasks {
			if task.Kind == 2 {
				continue
			}
			for at := 0; at+bounds[k].Bound <= x.Now; at += task.Period {
				if end := ends[impl.Done{Task: k, Arrived: at}]; end == 0 || end > at+bounds[k].Bound {
					t.Fatalf("the job of task %d that is released at %d ends at %d, its bound is %d: %v", k, at, end, bounds[k].Bound, p)
				}
				releases++
			}
		}
	}
	if releases < 3000 {
		t.Error("releases", releases)
	}
}

// Bounds that are reached: up to one tick, with which a section that blocks has to begin before the release.
func TestBoundsAreReached(t *testing.T) {
	run := func(first int, pins ...int) []impl.Done {
		b := benchOf(t, easyProgram())
		b.pass(1, first)
		b.pass(60, pins...)
		return b.plc.Log[1:]
	}
	for _, v := range []struct {
		first int
		pins  []int
		want  []impl.Done
	}{
		{2, []int{0, 1}, []impl.Done{{Task: 0, Arrived: 1, Started: 20, Finished: 30}, {Task: 1, Arrived: 1, Started: 30, Finished: 34}}},
		{4, []int{0, 1, 2, 3}, []impl.Done{{Task: 0, Arrived: 1, Started: 8, Finished: 18}, {Task: 1, Arrived: 1, Started: 18, Finished: 22}, {Task: 2, Arrived: 1, Started: 22, Finished: 42}, {Task: 3, Arrived: 1, Started: 42, Finished: 48}}},
	} {
		if got := run(v.first, v.pins...); !slices.Equal(got, v.want) {
			t.Errorf("the log is %v, want %v", got, v.want)
		}
	}
	b := benchOf(t, easyProgram())
	b.pass(50, 0, 1, 2, 3, 4)
	b.wantLast(4, 0, 40, 48)
	if b.plc.Late != 0 {
		t.Error("Late is", b.plc.Late)
	}
	// Without a section that blocks, the bound of a task alone is what its job costs.
	for n := 2; n < 60; n++ {
		if n != 3 {
			b := benchOf(t, programOf(nil, routinesOf(lasting(n)), cyclic(n, n, 0)))
			b.pass(3 * n)
			b.wantLast(0, 2*n, 2*n, 3*n)
			if len(b.plc.Log) != 3 || b.plc.Late != 0 {
				t.Error("the log is", b.plc.Log)
			}
		}
	}
}
