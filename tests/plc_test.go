package tests

import (
	"fmt"
	"math"
	"math/rand"
	"slices"
	"testing"

	"loop.example/g00684/impl"
)

func copyOfJob(j impl.Job) impl.Job {
	j.Core = copyOfCore(j.Core)
	j.Latched, j.Outs, j.First = slices.Clone(j.Latched), slices.Clone(j.Outs), slices.Clone(j.First)
	return j
}

func copyOfPlc(x impl.Plc) impl.Plc {
	x.Program, x.Data = copyOfProgram(x.Program), copyOfData(x.Data)
	x.Sources, x.Jobs, x.Log = slices.Clone(x.Sources), slices.Clone(x.Jobs), slices.Clone(x.Log)
	for k := range x.Sources {
		x.Sources[k] = copyOfSource(x.Sources[k])
	}
	for i := range x.Jobs {
		x.Jobs[i] = copyOfJob(x.Jobs[i])
	}
	return x
}

// changedPlc returns a copy with one change.
func changedPlc(x impl.Plc, change func(*impl.Plc)) impl.Plc {
	x = copyOfPlc(x)
	change(&x)
	return x
}

func equalJobs(a, b impl.Job) bool {
	return a.Task == b.Task && a.Arrived == b.Arrived && a.Started == b.Started && a.Phase == b.Phase && a.Left == b.Left &&
		equalCores(a.Core, b.Core) && slices.Equal(a.Latched, b.Latched) && slices.Equal(a.Outs, b.Outs) && slices.Equal(a.First, b.First)
}

// equalPlcs compares all fields of any two processors, whether they are valid or not.
func equalPlcs(a, b impl.Plc) bool {
	return equalPrograms(a.Program, b.Program) && equalData(a.Data, b.Data) &&
		a.Mode == b.Mode && a.Now == b.Now && a.Since == b.Since && a.Late == b.Late && a.Busy == b.Busy &&
		slices.EqualFunc(a.Sources, b.Sources, equalSources) && slices.EqualFunc(a.Jobs, b.Jobs, equalJobs) && slices.Equal(a.Log, b.Log)
}

func isZeroPlc(x impl.Plc) bool {
	return equalPlcs(x, impl.Plc{})
}

// plcByRule is the reference for PlcOK.
func plcByRule(x impl.Plc) bool {
	if _, code := checkByRule(x.Program); code != 0 {
		return false
	}
	if _, _, code := admitByRule(x.Program); code != 0 {
		return false
	}
	tasks := len(x.Program.Tasks)
	rules := []bool{
		impl.DataOK(x.Data), slices.Equal(kindsOf(x.Data), x.Program.Kinds),
		x.Mode == 1 || x.Mode == 2, x.Now >= 0, x.Now <= largestValue, x.Late >= 0, x.Late <= largestValue, x.Since >= 0, x.Since <= x.Now,
		len(x.Sources) == tasks, len(x.Jobs) > 0 || !x.Busy, len(x.Log) <= 40,
		x.Mode == 2 || len(x.Jobs) == 0 && slices.Equal(x.Data.Wires, x.Program.Safe),
	}
	if slices.Contains(rules, false) {
		return false
	}
	for k, s := range x.Sources {
		if !sourceByRule(s, x.Program.Tasks[k]) || s.Last > x.Now || x.Mode == 1 && len(s.Queue) > 0 {
			return false
		}
	}
	for i, j := range x.Jobs {
		if j.Task < 0 || j.Task >= tasks || i > 0 && j.Task >= x.Jobs[i-1].Task || j.Left > 0 && (!x.Busy || i < len(x.Jobs)-1) || !jobByRule(x, j) {
			return false
		}
	}
	for i, d := range x.Log {
		if d.Task < 0 || d.Task >= tasks || d.Arrived < 0 || d.Arrived > d.Started || d.Started > d.Finished || d.Finished > x.Now || i > 0 && d.Finished < x.Log[i-1].Finished {
			return false
		}
	}
	return true
}

// jobByRule is about what does not depend on other jobs; the task exists.
func jobByRule(x impl.Plc, j impl.Job) bool {
	if j.Arrived < 0 || j.Arrived > j.Started || j.Started > x.Now || j.Left < 0 || j.Left > 3 || len(j.Latched) != 8 || len(j.Outs) != 8 || len(j.First) != 8 {
		return false
	}
	if !coreByRule(x.Program.Routines, x.Program.Kinds, j.Core) {
		return false
	}
	routine := x.Program.Tasks[j.Task].Routine
	switch {
	case j.Phase == 1 && len(x.Program.Routines[routine].Code) == 0:
		return j.Left == 0 && isZeroCore(j.Core)
	case j.Phase == 1:
		return j.Left == 0 && equalCores(j.Core, coreOf(nil, frameAt(routine, 0)))
	case j.Phase == 2 && len(j.Core.Frames) == 0:
		return j.Left > 0
	case j.Phase == 2:
		return j.Core.Frames[0].Routine == routine
	}
	return j.Phase == 3 && j.Left == 0 && len(j.Core.Frames) == 0
}

// busyProgram is admitted, and so are those that differ from it by a longer deadline or by another pin, kind or safe output.
func busyProgram() impl.Program {
	p := programOf([]int{1, 2},
		routinesOf("load 0; push 1; add; store 0",
			"cut; push 6; push 2; div; store 1; cut",
			"repeat 3; cut; call 0; end; in 1; out 1; cut",
			"",
			"in 2; push 9; block 0; out 2; cut; in 3; flag 0; push 2; block 1; out 3; push 4; call 2; store 4"),
		event(200, 190, 0, 2, 1), event(300, 290, 1, 1, 0), cyclic(500, 400, 2), cyclic(400, 390, 3), cyclic(1000, 900, 4))
	p.Safe[1], p.Safe[6] = true, true
	return p
}

func jobOf(task, arrived, started, phase, left int, c impl.Core) impl.Job {
	return impl.Job{Task: task, Arrived: arrived, Started: started, Phase: phase, Left: left, Core: c,
		Latched: pinsByBits(17 * task), Outs: pinsByBits(41 + task), First: pinsByBits(90 - task)}
}

// busyPlc is in the middle of its work: a job in a loop of a routine that is called, one that only has to write its outputs, one that has
// only been started, and on top of them one in an instruction of four ticks.
func busyPlc() impl.Plc {
	p := busyProgram()
	return impl.Plc{
		Program: p, Data: mixedData(rand.New(rand.NewSource(131)), p.Kinds),
		Mode: 2, Now: 1000, Since: 100, Late: 3, Busy: true,
		Sources: []impl.Source{sourceOf(990, 700, 980), sourceOf(950, 950), sourceOf(940), sourceOf(960, 900), sourceOf(-1)},
		Jobs: []impl.Job{
			jobOf(4, 500, 510, 2, 0, coreOf([]int{7}, frameAt(4, 12), frameAt(2, 2, 2))),
			jobOf(2, 600, 620, 3, 0, impl.Core{}),
			jobOf(1, 640, 640, 1, 0, coreOf(nil, frameAt(0, 0))),
			jobOf(0, 650, 950, 2, 3, coreOf([]int{3}, frameAt(1, 4))),
		},
		Log: []impl.Done{{Task: 0, Arrived: 10, Started: 20, Finished: 30}, {Task: 4, Arrived: 0, Started: 50, Finished: 50}, {Task: 3, Arrived: 970, Started: 970, Finished: 970}},
	}
}

// restingPlc is stopped, and was at work before.
func restingPlc() impl.Plc {
	x := busyPlc()
	x.Mode, x.Busy, x.Jobs = 1, false, nil
	for k := range x.Sources {
		x.Sources[k].Queue = nil
	}
	copy(x.Data.Wires, x.Program.Safe)
	return x
}

// idlePlc is restingPlc at work, without a job and without a pending release.
func idlePlc() impl.Plc {
	x := restingPlc()
	x.Mode = 2
	return x
}

// newPlc is the processor that LoadPlc should make of an admitted program.
func newPlc(p impl.Program) impl.Plc {
	x := impl.Plc{Program: copyOfProgram(p), Data: newData(p.Kinds...), Mode: 1}
	copy(x.Data.Wires, p.Safe)
	for range p.Tasks {
		x.Sources = append(x.Sources, impl.Source{Last: -1})
	}
	return x
}

func scriptOf(n int, on ...int) [][]bool {
	script := make([][]bool, n)
	for i := range script {
		script[i] = pinsOn(on...)
	}
	return script
}

// wantPlc expects a valid or an invalid processor, and what all functions make of it.
func wantPlc(t *testing.T, x impl.Plc, want bool) {
	t.Helper()
	if got := impl.PlcOK(x); got != want || plcByRule(x) != want {
		t.Errorf("PlcOK is %t, by rule %t, want %t: %s", got, plcByRule(x), want, brief(x))
	}
	wantSamePlc(t, x, x, want)
	wantSamePlc(t, x, copyOfPlc(x), want)
	if !want {
		wantBadPlc(t, x)
		return
	}
	checkStart(t, x)
	checkStop(t, x)
	if x.Now < largestValue {
		checkTick(t, x, pinsOn(0, 2, 7))
	}
}

// wantBadPlc expects ErrBad and nothing else, whatever the other argument is, unless that is too long.
func wantBadPlc(t *testing.T, x impl.Plc) {
	t.Helper()
	want := func(name string, y impl.Plc, code, wantCode int) {
		t.Helper()
		if code != wantCode || !isZeroPlc(y) {
			t.Errorf("%s = %s, %d, want %d: %s", name, brief(y), code, wantCode, brief(x))
		}
	}
	y, code := impl.StartPlc(x)
	want("StartPlc", y, code, impl.ErrBad)
	y, code = impl.StopPlc(x)
	want("StopPlc", y, code, impl.ErrBad)
	for _, pins := range [][]bool{pinsOn(), nil, make([]bool, 7), make([]bool, longestList)} {
		y, code = impl.TickPlc(x, pins)
		want("TickPlc", y, code, impl.ErrBad)
		y, code = impl.RunPlc(x, [][]bool{pinsOn(1), pins})
		want("RunPlc", y, code, impl.ErrBad)
	}
	y, code = impl.RunPlc(x, nil)
	want("RunPlc", y, code, impl.ErrBad)
	y, code = impl.RunPlc(x, [][]bool{make([]bool, longestList+1)})
	want("RunPlc", y, code, impl.ErrBad)
	y, code = impl.RunPlc(x, make([][]bool, longestList))
	want("RunPlc", y, code, impl.ErrBad)
	y, code = impl.TickPlc(x, make([]bool, longestList+1))
	want("TickPlc", y, code, impl.ErrLong)
	y, code = impl.RunPlc(x, make([][]bool, longestList+1))
	want("RunPlc", y, code, impl.ErrLong)
}

func wantSamePlc(t *testing.T, a, b impl.Plc, want bool) {
	t.Helper()
	if x, y := impl.SamePlc(a, b), impl.SamePlc(b, a); x != want || y != want {
		t.Errorf("SamePlc is %t, and %t the other way round, want %t: %s and %s", x, y, want, brief(a), brief(b))
	}
}

func TestLimitsOfChapter12(t *testing.T) {
	got := []int{impl.MaxLog, impl.MdStop, impl.MdRun, impl.PhLatch, impl.PhCode, impl.PhFlush}
	if !slices.Equal(got, []int{40, 1, 2, 1, 2, 3}) {
		t.Error("limits", got)
	}
}

func TestPlcOK(t *testing.T) {
	wantPlc(t, busyPlc(), true)
	wantPlc(t, restingPlc(), true)
	wantPlc(t, idlePlc(), true)
	wantPlc(t, newPlc(impl.DemoProgram()), true)
	wantPlc(t, newPlc(easyProgram()), true)
	wantPlc(t, impl.Plc{}, false)
	wantPlc(t, impl.Plc{Mode: 1}, false)
	wantPlc(t, impl.Plc{Program: busyProgram(), Data: newData(1, 2), Mode: 2}, false)
}

// A plcNumber is a number in a processor, with the range that it has if all others stay as they are.
type plcNumber struct {
	name      string
	field     *int
	low, high int
}

func statusNumbers(x *impl.Plc, lowestMode, earliest int) []plcNumber {
	list := []plcNumber{{"Mode", &x.Mode, lowestMode, 2}, {"Now", &x.Now, earliest, largestValue}, {"Since", &x.Since, 0, 1000}, {"Late", &x.Late, 0, largestValue}, {"Wrong", &x.Data.Wrong, 0, largestValue}}
	for k := range x.Sources {
		for _, n := range sourceFields(&x.Sources[k])[1:] {
			list = append(list, plcNumber{fmt.Sprint("a counter of source ", k), n, 0, largestValue})
		}
	}
	d := x.Log
	return append(list, []plcNumber{
		{"Task of entry 0", &d[0].Task, 0, 4}, {"Arrived of entry 0", &d[0].Arrived, 0, 20}, {"Started of entry 0", &d[0].Started, 10, 30}, {"Finished of entry 0", &d[0].Finished, 20, 50},
		{"Task of entry 1", &d[1].Task, 0, 4}, {"Arrived of entry 1", &d[1].Arrived, 0, 50}, {"Started of entry 1", &d[1].Started, 0, 50}, {"Finished of entry 1", &d[1].Finished, 50, 970},
		{"Task of entry 2", &d[2].Task, 0, 4}, {"Arrived of entry 2", &d[2].Arrived, 0, 970}, {"Started of entry 2", &d[2].Started, 970, 970}, {"Finished of entry 2", &d[2].Finished, 970, 1000},
	}...)
}

func restingNumbers(x *impl.Plc) []plcNumber {
	list := statusNumbers(x, 1, 990)
	for k := range x.Sources {
		list = append(list, plcNumber{fmt.Sprint("Last of source ", k), &x.Sources[k].Last, -1, 1000})
	}
	return list
}

func busyNumbers(x *impl.Plc) []plcNumber {
	s, j := x.Sources, x.Jobs
	return append(statusNumbers(x, 2, 990), []plcNumber{
		{"Last of source 0", &s[0].Last, 980, 1000}, {"Last of source 1", &s[1].Last, 950, 1000}, {"Last of source 2", &s[2].Last, -1, 1000}, {"Last of source 3", &s[3].Last, 900, 1000}, {"Last of source 4", &s[4].Last, -1, 1000},
		{"release 0 of source 0", &s[0].Queue[0], 0, 979}, {"release 1 of source 0", &s[0].Queue[1], 701, 990}, {"the release of source 1", &s[1].Queue[0], 0, 950}, {"the release of source 3", &s[3].Queue[0], 0, 960},
		{"Task of job 0", &j[0].Task, 4, 4}, {"Arrived of job 0", &j[0].Arrived, 0, 510}, {"Started of job 0", &j[0].Started, 500, 1000}, {"Phase of job 0", &j[0].Phase, 2, 2}, {"Left of job 0", &j[0].Left, 0, 0},
		{"Task of job 1", &j[1].Task, 2, 3}, {"Arrived of job 1", &j[1].Arrived, 0, 620}, {"Started of job 1", &j[1].Started, 600, 1000}, {"Phase of job 1", &j[1].Phase, 3, 3}, {"Left of job 1", &j[1].Left, 0, 0},
		{"Task of job 2", &j[2].Task, 1, 1}, {"Arrived of job 2", &j[2].Arrived, 0, 640}, {"Started of job 2", &j[2].Started, 640, 1000}, {"Phase of job 2", &j[2].Phase, 1, 2}, {"Left of job 2", &j[2].Left, 0, 0},
		{"Task of job 3", &j[3].Task, 0, 0}, {"Arrived of job 3", &j[3].Arrived, 0, 950}, {"Started of job 3", &j[3].Started, 650, 1000}, {"Phase of job 3", &j[3].Phase, 2, 2}, {"Left of job 3", &j[3].Left, 0, 3},
		{"an element of job 0", &j[0].Core.Stack[0], smallestValue, largestValue}, {"a counter of job 0", &j[0].Core.Frames[1].Loops[0], 1, 3},
		{"a routine of job 0", &j[0].Core.Frames[0].Routine, 4, 4}, {"the other routine of job 0", &j[0].Core.Frames[1].Routine, 2, 2}, {"the place of job 0", &j[0].Core.Frames[0].Pc, 12, 12}, {"the other place of job 0", &j[0].Core.Frames[1].Pc, 1, 3},
	}...)
}

func wantNumbers(t *testing.T, base func() impl.Plc, numbers func(*impl.Plc) []plcNumber) {
	t.Helper()
	x := base()
	for _, row := range numbers(&x) {
		before := *row.field
		for _, n := range append(edgeInts(), row.low+1<<32, row.high-1<<32) {
			*row.field = n
			if want := row.low <= n && n <= row.high; impl.PlcOK(x) != want {
				t.Errorf("with %d for %s PlcOK is %t", n, row.name, !want)
			}
		}
		for _, n := range []int{row.low - 1, row.low, row.high, row.high + 1} {
			*row.field = n
			wantPlc(t, x, row.low <= n && n <= row.high)
		}
		*row.field = before
	}
}

func TestPlcOKByNumber(t *testing.T) {
	wantNumbers(t, busyPlc, busyNumbers)
	wantNumbers(t, restingPlc, restingNumbers)
	wantNumbers(t, idlePlc, restingNumbers)
}

// Programs that are not valid, and valid ones that are not admitted.
func TestPlcOKByProgram(t *testing.T) {
	for _, base := range []func() impl.Plc{busyPlc, restingPlc} {
		set := func(change func(*impl.Program), want bool) {
			t.Helper()
			wantPlc(t, changedPlc(base(), func(x *impl.Plc) { change(&x.Program) }), want)
		}
		set(func(p *impl.Program) { p.Tasks[0].Deadline = 5000 }, true)
		set(func(p *impl.Program) { p.Tasks[1].Pin = 0 }, true)
		set(func(p *impl.Program) { p.Routines = append(p.Routines, impl.Routine{}) }, true)
		set(func(p *impl.Program) { p.Safe = nil }, false)
		set(func(p *impl.Program) { p.Safe = make([]bool, 9) }, false)
		set(func(p *impl.Program) { p.Tasks[3].Kind = 3 }, false)
		set(func(p *impl.Program) { p.Tasks[3].Routine = 5 }, false)
		set(func(p *impl.Program) { p.Tasks = nil }, false)
		set(func(p *impl.Program) { p.Routines = nil }, false)
		set(func(p *impl.Program) { p.Routines[3].Code = parse("end") }, false)
		for k := range 5 {
			set(func(p *impl.Program) { p.Tasks[k].Deadline = 1 }, false)
			set(func(p *impl.Program) { p.Tasks[k].Period, p.Tasks[k].Deadline = 1, 1 }, false)
			set(func(p *impl.Program) { p.Tasks[k].Queue = 0 }, false)
		}
	}
	// A deadline at the bound of its task, and one tick before it
	bounds, _ := impl.BoundsOf(busyProgram())
	for k, b := range bounds {
		for _, base := range []func() impl.Plc{busyPlc, restingPlc} {
			wantPlc(t, changedPlc(base(), func(x *impl.Plc) { x.Program.Tasks[k].Deadline = b.Bound }), true)
			wantPlc(t, changedPlc(base(), func(x *impl.Plc) { x.Program.Tasks[k].Deadline = b.Bound - 1 }), false)
		}
	}
	for _, p := range invalidPrograms() {
		if x := newPlc(p); impl.PlcOK(x) || plcByRule(x) {
			t.Error("PlcOK with", brief(p))
		}
	}
	for _, v := range overloads() {
		wantPlc(t, newPlc(v.program), false)
	}
	wantPlc(t, newPlc(queued(9, 1)), false)
	wantPlc(t, newPlc(queued(9, 2)), true)
}

func TestPlcOKByData(t *testing.T) {
	for _, base := range []func() impl.Plc{busyPlc, restingPlc} {
		kinds := func(want bool, kinds ...int) {
			t.Helper()
			wantPlc(t, changedPlc(base(), func(x *impl.Plc) {
				x.Data.Blocks = newData(kinds...).Blocks
			}), want)
		}
		kinds(true, 1, 2)
		kinds(false)
		kinds(false, 1)
		kinds(false, 2, 1)
		kinds(false, 1, 2, 3)
		kinds(false, 1, 1)
		kinds(false, 2, 2)
		for _, d := range invalidDatas() {
			if x := changedPlc(base(), func(x *impl.Plc) { x.Data = d }); impl.PlcOK(x) || plcByRule(x) {
				t.Error("PlcOK with", brief(d))
			}
		}
		for i := range 4 {
			for _, n := range []int{0, 7, 9} {
				wantPlc(t, changedPlc(base(), func(x *impl.Plc) { *pinsOf(&x.Data)[i] = make([]bool, n) }), false)
			}
		}
		wantPlc(t, changedPlc(base(), func(x *impl.Plc) { x.Data.Globals = x.Data.Globals[:15] }), false)
		wantPlc(t, changedPlc(base(), func(x *impl.Plc) { x.Data.Globals[7] = largestValue + 1 }), false)
		wantPlc(t, changedPlc(base(), func(x *impl.Plc) { x.Data.Blocks[1] = impl.Fb{Kind: 2, Start: 1} }), false)
	}
	// Of a processor that is running, any pins are valid; of one that is stopped, Wires are not.
	for bits := range 256 {
		for i := range 4 {
			set := func(x *impl.Plc) { *pinsOf(&x.Data)[i] = pinsByBits(bits) }
			if !impl.PlcOK(changedPlc(busyPlc(), set)) || !impl.PlcOK(changedPlc(idlePlc(), set)) {
				t.Error("PlcOK with other pins", i, bits)
			}
			if impl.PlcOK(changedPlc(restingPlc(), set)) != (i < 3 || bits == 1<<1+1<<6) {
				t.Error("PlcOK of a stopped processor with other pins", i, bits)
			}
		}
	}
	for i := range 8 {
		wantPlc(t, changedPlc(restingPlc(), func(x *impl.Plc) { x.Data.Wires[i] = !x.Data.Wires[i] }), false)
		wantPlc(t, changedPlc(restingPlc(), func(x *impl.Plc) { x.Program.Safe[i] = !x.Program.Safe[i] }), false)
		wantPlc(t, changedPlc(restingPlc(), func(x *impl.Plc) {
			x.Data.Wires[i], x.Program.Safe[i] = !x.Data.Wires[i], !x.Program.Safe[i]
		}), true)
	}
}

func TestPlcOKBySources(t *testing.T) {
	for _, base := range []func() impl.Plc{busyPlc, restingPlc, idlePlc} {
		for _, n := range []int{0, 1, 4, 6, 10, longestList, longestList + 1} {
			wantPlc(t, changedPlc(base(), func(x *impl.Plc) { x.Sources = slices.Repeat([]impl.Source{sourceOf(40)}, n) }), false)
		}
		wantPlc(t, changedPlc(base(), func(x *impl.Plc) { x.Sources = slices.Repeat([]impl.Source{sourceOf(40)}, 5) }), true)
		wantPlc(t, changedPlc(base(), func(x *impl.Plc) { x.Sources = slices.Repeat([]impl.Source{impl.NewSource()}, 5) }), true)
		running := base().Mode == 2
		for k := range 5 {
			set := func(s impl.Source, want bool) {
				t.Helper()
				wantPlc(t, changedPlc(base(), func(x *impl.Plc) { x.Sources[k] = s }), want)
			}
			// The queue of the first task has room for two.
			set(sourceOf(1000), true)
			set(sourceOf(1001), false)
			set(sourceOf(1000, 1000), running)
			set(sourceOf(1000, 0), running)
			set(sourceOf(1000, 0, 1000), running && k == 0)
			set(sourceOf(1000, 0, 1, 2), false)
			set(sourceOf(999, 1000), false)
			set(sourceOf(1000, 5, 5), false)
			set(sourceOf(-1, 0), false)
			set(impl.Source{}, true)
			set(impl.Source{Last: -2}, false)
		}
	}
}

// In each place of the list a job whose task is as it should be, and others.
func TestPlcOKByOrderOfJobs(t *testing.T) {
	job := func(task int) impl.Job { return jobOf(task, 5, 6, 3, 0, impl.Core{}) }
	for bits := range 32 {
		var jobs []impl.Job
		for task := 4; task >= 0; task-- {
			if bits>>task&1 > 0 {
				jobs = append(jobs, job(task))
			}
		}
		set := func(want bool, jobs ...impl.Job) {
			t.Helper()
			for _, busy := range []bool{false, true} {
				wantPlc(t, changedPlc(idlePlc(), func(x *impl.Plc) { x.Jobs, x.Busy = jobs, busy }), want && (!busy || len(jobs) > 0))
			}
			wantPlc(t, changedPlc(restingPlc(), func(x *impl.Plc) { x.Jobs = jobs }), len(jobs) == 0)
		}
		set(true, jobs...)
		for i := range jobs {
			for _, task := range []int{-1, 0, 1, 2, 3, 4, 5, math.MinInt, math.MaxInt} {
				after := len(jobs) == i+1 && task >= 0 || len(jobs) > i+1 && task > jobs[i+1].Task
				before := i == 0 && task < 5 || i > 0 && task < jobs[i-1].Task
				list := slices.Clone(jobs)
				list[i] = job(task)
				set(after && before, list...)
			}
			set(false, slices.Insert(slices.Clone(jobs), i, jobs[i])...)
		}
	}
	for _, n := range []int{6, longestList, longestList + 1} {
		wantPlc(t, changedPlc(idlePlc(), func(x *impl.Plc) { x.Jobs = slices.Repeat([]impl.Job{job(0)}, n) }), false)
	}
}

func TestPlcOKByListsOfJobs(t *testing.T) {
	for i := range 4 {
		for k := range 3 {
			for _, n := range []int{0, 1, 7, 8, 9, 16, 256, 264, longestList, longestList + 1} {
				wantPlc(t, changedPlc(busyPlc(), func(x *impl.Plc) {
					*[]*[]bool{&x.Jobs[i].Latched, &x.Jobs[i].Outs, &x.Jobs[i].First}[k] = make([]bool, n)
				}), n == 8)
			}
		}
	}
}

// Every phase with every core, alone and below another job, with Left and Busy of every kind.
func TestPlcOKByPhase(t *testing.T) {
	cores := []impl.Core{{}, coreOf(nil, frameAt(0, 0)), coreOf(nil, frameAt(0, 3)), coreOf([]int{5}, frameAt(0, 3)), coreOf([]int{5}), coreOf(nil, frameAt(3, 0)),
		coreOf(nil, frameAt(2, 0)), coreOf(nil, frameAt(2, 3, 3)), coreOf(nil, frameAt(2, 3, 4)), coreOf(nil, frameAt(2, 3, 2), frameAt(0, 0)), coreOf([]int{4, 5}, frameAt(2, 3, 2), frameAt(0, 2)), coreOf([]int{1}, frameAt(2, 5)), coreOf([]int{2}, frameAt(2, 5)),
		coreOf([]int{9}, frameAt(4, 12), frameAt(2, 0)), coreOf(nil, frameAt(4, 0)), coreOf([]int{9}, frameAt(4, 12))}
	seen := map[bool]int{}
	x := idlePlc()
	for _, c := range cores {
		for task := 1; task < 5; task++ {
			for _, phase := range []int{math.MinInt, -1, 0, 1, 2, 3, 4, math.MaxInt} {
				for _, left := range []int{math.MinInt, -1, 0, 1, 2, 3, 4, math.MaxInt} {
					for _, busy := range []bool{false, true} {
						for _, above := range []bool{false, true} {
							x.Jobs, x.Busy = []impl.Job{jobOf(task, 5, 6, phase, left, c)}, busy
							if above {
								x.Jobs = append(x.Jobs, jobOf(0, 5, 6, 3, 0, impl.Core{}))
							}
							want := plcByRule(x)
							seen[want]++
							if want || seen[want]%16 == 0 {
								wantPlc(t, x, want)
							} else if impl.PlcOK(x) {
								t.Error("PlcOK with the jobs", x.Jobs)
							}
						}
					}
				}
			}
		}
	}
	if seen[true] < 100 || seen[false] < 10000 {
		t.Error("valid and invalid jobs", seen)
	}
}

// The rules about phases once more, written out.
func TestPlcOKOfPhases(t *testing.T) {
	start, inside, called, ended := coreOf(nil, frameAt(2, 0)), coreOf(nil, frameAt(2, 3, 1)), coreOf([]int{4}, frameAt(4, 12), frameAt(2, 3, 1)), impl.Core{}
	for _, v := range []struct {
		task, phase, left int
		core              impl.Core
		busy, want        bool
	}{
		{2, 1, 0, start, true, true}, {2, 1, 0, start, false, true}, {2, 1, 1, start, true, false}, {2, 1, 0, inside, true, false}, {2, 1, 0, ended, true, false}, {4, 1, 0, start, true, false},
		{3, 1, 0, ended, true, true}, {3, 1, 1, ended, true, false}, {3, 2, 0, ended, true, false}, {3, 2, 1, ended, true, true}, {3, 3, 0, ended, true, true}, {3, 1, 0, start, true, false},
		{2, 2, 0, start, true, true}, {2, 2, 3, start, true, true}, {2, 2, 0, inside, false, true}, {2, 2, 1, inside, false, false}, {2, 2, 4, inside, true, false}, {2, 2, 0, called, true, false}, {4, 2, 0, called, true, true}, {4, 2, 0, inside, true, false}, {4, 2, 2, called, true, true},
		{2, 2, 0, ended, true, false}, {2, 2, 0, ended, false, false}, {2, 2, 1, ended, true, true}, {2, 2, 3, ended, true, true}, {2, 2, 4, ended, true, false}, {2, 2, 1, ended, false, false},
		{2, 3, 0, ended, true, true}, {2, 3, 0, ended, false, true}, {2, 3, 1, ended, true, false}, {2, 3, 0, start, true, false}, {2, 3, 0, inside, false, false},
		{2, 0, 0, ended, true, false}, {2, 0, 0, start, true, false}, {2, 4, 0, ended, true, false}, {2, 4, 0, inside, true, false},
	} {
		x := idlePlc()
		x.Jobs, x.Busy = []impl.Job{jobOf(v.task, 5, 6, v.phase, v.left, v.core)}, v.busy
		wantPlc(t, x, v.want)
	}
	// Left of a job below another one
	for left, want := range []bool{true, false, false, false, false} {
		wantPlc(t, changedPlc(busyPlc(), func(x *impl.Plc) { x.Jobs[0].Left = left }), want)
		wantPlc(t, changedPlc(busyPlc(), func(x *impl.Plc) { x.Jobs[3].Left = left }), left < 4)
		wantPlc(t, changedPlc(busyPlc(), func(x *impl.Plc) { x.Jobs[3].Left, x.Busy = left, false }), want)
	}
	wantPlc(t, changedPlc(busyPlc(), func(x *impl.Plc) { x.Jobs = nil }), false)
	wantPlc(t, changedPlc(busyPlc(), func(x *impl.Plc) { x.Jobs, x.Busy = nil, false }), true)
	wantPlc(t, changedPlc(restingPlc(), func(x *impl.Plc) { x.Busy = true }), false)
}

func TestPlcOKByLog(t *testing.T) {
	entry := func(n int) impl.Done { return impl.Done{Task: n % 5, Arrived: n, Started: n, Finished: n} }
	for _, base := range []func() impl.Plc{busyPlc, restingPlc} {
		set := func(want bool, list ...impl.Done) {
			t.Helper()
			wantPlc(t, changedPlc(base(), func(x *impl.Plc) { x.Log = list }), want)
		}
		for _, n := range []int{0, 1, 2, 39, 40, 41, 42, 80, longestList, longestList + 1} {
			set(n <= 40, slices.Repeat([]impl.Done{entry(3)}, n)...)
			set(n <= 40, slices.Repeat([]impl.Done{{}}, n)...)
		}
		var rising []impl.Done
		for n := range 40 {
			rising = append(rising, entry(n))
		}
		set(true, rising...)
		set(false, append(rising, entry(40))...)
		slices.Reverse(rising)
		set(false, rising...)
		set(true, entry(7), entry(7))
		set(true, entry(7), entry(8))
		set(false, entry(8), entry(7))
		set(false, entry(6), entry(9), entry(8), entry(9))
		set(true, entry(1000))
		set(false, entry(1001))
		// Only Finished has an order from entry to entry.
		set(true, impl.Done{Task: 1, Arrived: 50, Started: 60, Finished: 70}, impl.Done{Task: 0, Arrived: 5, Started: 6, Finished: 70})
	}
}

// otherPlcs holds valid processors that differ from busyPlc in one place each.
func otherPlcs() []impl.Plc {
	var list []impl.Plc
	add := func(change func(*impl.Plc)) { list = append(list, changedPlc(busyPlc(), change)) }
	first := busyPlc()
	for i, row := range busyNumbers(&first) {
		for _, n := range []int{row.low, row.high, *row.field - 1, *row.field + 1} {
			if n >= row.low && n <= row.high && n != *row.field {
				add(func(x *impl.Plc) { *busyNumbers(x)[i].field = n })
			}
		}
	}
	for _, d := range otherDatas(busyPlc().Data) {
		if slices.Equal(kindsOf(d), []int{1, 2}) {
			add(func(x *impl.Plc) { x.Data = d })
		}
	}
	add(func(x *impl.Plc) { x.Program.Tasks[3].Deadline++ })
	add(func(x *impl.Plc) { x.Program.Tasks[0].Pin = 7 })
	add(func(x *impl.Plc) { x.Program.Routines[0].Code[1].A = 2 })
	add(func(x *impl.Plc) { x.Program.Routines = append(x.Program.Routines, impl.Routine{}) })
	add(func(x *impl.Plc) { x.Program.Safe[5] = true })
	add(func(x *impl.Plc) { x.Sources[0].Queue = x.Sources[0].Queue[:1] })
	add(func(x *impl.Plc) { x.Sources[0].Queue = x.Sources[0].Queue[1:] })
	for k := range 4 {
		add(func(x *impl.Plc) { x.Sources[k].Queue = []int{3} })
		add(func(x *impl.Plc) { x.Jobs[k].Arrived-- })
		for i := range 8 {
			add(func(x *impl.Plc) { x.Jobs[k].Latched[i] = !x.Jobs[k].Latched[i] })
			add(func(x *impl.Plc) { x.Jobs[k].Outs[i] = !x.Jobs[k].Outs[i] })
			add(func(x *impl.Plc) { x.Jobs[k].First[i] = !x.Jobs[k].First[i] })
		}
	}
	add(func(x *impl.Plc) { x.Jobs[3].Left, x.Busy = 0, false })
	add(func(x *impl.Plc) { x.Jobs = x.Jobs[1:] })
	add(func(x *impl.Plc) { x.Jobs = x.Jobs[:3] })
	add(func(x *impl.Plc) { x.Jobs, x.Busy = nil, false })
	add(func(x *impl.Plc) { x.Jobs[0].Core = coreOf(nil, frameAt(4, 0)) })
	add(func(x *impl.Plc) { x.Log = x.Log[1:] })
	add(func(x *impl.Plc) { x.Log = x.Log[:2] })
	add(func(x *impl.Plc) { x.Log = nil })
	add(func(x *impl.Plc) { x.Log = append(x.Log, x.Log[2]) })
	return list
}

func TestSamePlc(t *testing.T) {
	base := busyPlc()
	for i, x := range otherPlcs() {
		if !impl.PlcOK(x) {
			t.Fatal("processor", i, "is not valid:", brief(x))
		}
		if !equalPlcs(x, base) {
			wantSamePlc(t, base, x, false)
		}
		wantSamePlc(t, x, copyOfPlc(x), true)
	}
	quiet := changedPlc(base, func(x *impl.Plc) { x.Jobs[3].Left = 0 })
	wantSamePlc(t, quiet, changedPlc(quiet, func(x *impl.Plc) { x.Busy = false }), false)
	wantSamePlc(t, restingPlc(), idlePlc(), false)
	wantSamePlc(t, restingPlc(), newPlc(busyProgram()), false)
	for i := range 8 {
		wantSamePlc(t, restingPlc(), changedPlc(restingPlc(), func(x *impl.Plc) { x.Program.Safe[i], x.Data.Wires[i] = !x.Program.Safe[i], !x.Data.Wires[i] }), false)
	}
}

func TestSamePlcOfInvalidPlcs(t *testing.T) {
	for _, change := range []func(*impl.Plc){
		func(x *impl.Plc) { x.Mode = 3 }, func(x *impl.Plc) { x.Late = -1 }, func(x *impl.Plc) { x.Sources = nil }, func(x *impl.Plc) { x.Log[0].Task = 5 }, func(x *impl.Plc) { x.Jobs[0].Phase = 4 },
		func(x *impl.Plc) { x.Program.Safe = nil }, func(x *impl.Plc) { x.Data.Globals = nil }, func(x *impl.Plc) { x.Jobs = slices.Repeat(x.Jobs, longestList) }, func(x *impl.Plc) { x.Log = slices.Repeat(x.Log, longestList) },
	} {
		wrong := changedPlc(busyPlc(), change)
		wantSamePlc(t, wrong, busyPlc(), false)
		wantSamePlc(t, wrong, wrong, false)
		wantSamePlc(t, wrong, copyOfPlc(wrong), false)
	}
	wantSamePlc(t, impl.Plc{}, impl.Plc{}, false)
	wantSamePlc(t, impl.Plc{}, busyPlc(), false)
}

// An empty list and nil are the same, wherever they are.
func TestSamePlcOfEmptyLists(t *testing.T) {
	p := programOf(nil, make([]impl.Routine, 1), cyclic(100, 90, 0))
	a := newPlc(p)
	a.Mode = 2
	a.Jobs = []impl.Job{jobOf(0, 0, 0, 3, 0, impl.Core{})}
	b := changedPlc(a, func(x *impl.Plc) {
		x.Program.Kinds, x.Program.Routines[0].Code, x.Data.Blocks, x.Sources[0].Queue = []int{}, []impl.Instr{}, []impl.Fb{}, []int{}
		x.Jobs[0].Core, x.Log = impl.Core{Frames: []impl.Frame{}, Stack: []int{}}, []impl.Done{}
	})
	a.Sources[0].Queue, a.Log = nil, nil
	wantSamePlc(t, a, b, true)
	a.Jobs, b.Jobs = nil, []impl.Job{}
	wantSamePlc(t, a, b, true)
	wantPlc(t, b, true)
}
