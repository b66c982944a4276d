package tests

import (
	"math"
	"math/rand"
	"slices"
	"strings"
	"testing"

	"loop.example/g00684/impl"
)

func cyclic(period, deadline, routine int) impl.Task {
	return impl.Task{Kind: 1, Period: period, Deadline: deadline, Queue: 1, Routine: routine}
}

func event(period, deadline, pin, queue, routine int) impl.Task {
	return impl.Task{Kind: 2, Period: period, Deadline: deadline, Pin: pin, Queue: queue, Routine: routine}
}

// taskFields returns the fields of a task in their order.
func taskFields(x *impl.Task) []*int {
	return []*int{&x.Kind, &x.Period, &x.Deadline, &x.Pin, &x.Queue, &x.Routine}
}

// taskByRule is the reference for TaskOK.
func taskByRule(x impl.Task) bool {
	in := func(n, low, high int) bool { return low <= n && n <= high }
	if !in(x.Kind, 1, 2) || !in(x.Period, 1, 5000) || !in(x.Deadline, 1, 5000) || !in(x.Queue, 1, 4) || !in(x.Routine, 0, 5) {
		return false
	}
	if x.Kind == 2 {
		return in(x.Pin, 0, 7)
	}
	return x.Pin == 0 && x.Queue == 1 && x.Deadline <= x.Period
}

// A taskRow is a valid task with the range that each field has if the others stay as they are.
type taskRow struct {
	task   impl.Task
	ranges [6][2]int
}

func taskRows() []taskRow {
	return []taskRow{
		{cyclic(3000, 2000, 3), [6][2]int{{1, 2}, {2000, 5000}, {1, 3000}, {0, 0}, {1, 1}, {0, 5}}},
		{cyclic(1, 1, 0), [6][2]int{{1, 2}, {1, 5000}, {1, 1}, {0, 0}, {1, 1}, {0, 5}}},
		{cyclic(5000, 5000, 5), [6][2]int{{1, 2}, {5000, 5000}, {1, 5000}, {0, 0}, {1, 1}, {0, 5}}},
		{event(2000, 3000, 3, 2, 3), [6][2]int{{2, 2}, {1, 5000}, {1, 5000}, {0, 7}, {1, 4}, {0, 5}}},
		{event(1, 5000, 7, 4, 0), [6][2]int{{2, 2}, {1, 5000}, {1, 5000}, {0, 7}, {1, 4}, {0, 5}}},
		{event(5000, 1, 0, 1, 5), [6][2]int{{1, 2}, {1, 5000}, {1, 5000}, {0, 7}, {1, 4}, {0, 5}}},
		{event(4, 5, 0, 1, 1), [6][2]int{{2, 2}, {1, 5000}, {1, 5000}, {0, 7}, {1, 4}, {0, 5}}},
		{event(5, 5, 1, 1, 1), [6][2]int{{2, 2}, {1, 5000}, {1, 5000}, {0, 7}, {1, 4}, {0, 5}}},
		{event(5, 5, 0, 2, 1), [6][2]int{{2, 2}, {1, 5000}, {1, 5000}, {0, 7}, {1, 4}, {0, 5}}},
	}
}

// eachTask calls check with every task that differs from that of the row in one field, and whether the field is in its range.
func (row taskRow) eachTask(check func(x impl.Task, ok bool)) {
	for i, ends := range row.ranges {
		low, high := ends[0], ends[1]
		numbers := append(edgeInts(), low-1, low, high, high+1, low+256, high-256, low+1<<16, high-1<<16, low+1<<32, high-1<<32)
		for _, n := range numbers {
			x := row.task
			*taskFields(&x)[i] = n
			check(x, low <= n && n <= high)
		}
	}
}

// invalidTasks holds tasks with exactly one reason to be invalid.
func invalidTasks() []impl.Task {
	var list []impl.Task
	for _, row := range taskRows() {
		row.eachTask(func(x impl.Task, ok bool) {
			if !ok {
				list = append(list, x)
			}
		})
	}
	return list
}

func wantTask(t *testing.T, x impl.Task, want bool) {
	t.Helper()
	if got := impl.TaskOK(x); got != want || taskByRule(x) != want {
		t.Errorf("TaskOK(%v) is %v, by rule %v, want %v", x, got, taskByRule(x), want)
	}
}

func TestLimitsOfChapter9(t *testing.T) {
	got := []int{impl.MaxTasks, impl.MaxQueue, impl.MaxTime, impl.TkCyclic, impl.TkEvent}
	if !slices.Equal(got, []int{5, 4, 5000, 1, 2}) {
		t.Error("limits", got)
	}
}

func TestTaskOK(t *testing.T) {
	for _, row := range taskRows() {
		wantTask(t, row.task, true)
		row.eachTask(func(x impl.Task, ok bool) { wantTask(t, x, ok) })
	}
	wantTask(t, impl.Task{}, false)
}

func TestTaskOKOfAllEnds(t *testing.T) {
	times := []int{math.MinInt, -1, 0, 1, 2, 4999, 5000, 5001, math.MaxInt}
	valid := map[int]int{}
	for kind := -1; kind <= 3; kind++ {
		for _, period := range times {
			for _, deadline := range times {
				for _, pin := range []int{-1, 0, 1, 7, 8} {
					for queue := -1; queue <= 5; queue++ {
						for _, routine := range []int{-1, 0, 5, 6} {
							x := impl.Task{Kind: kind, Period: period, Deadline: deadline, Pin: pin, Queue: queue, Routine: routine}
							ok := taskByRule(x)
							wantTask(t, x, ok)
							valid[kind] += asBit(ok)
						}
					}
				}
			}
		}
	}
	// 10 of the pairs of times suit a cyclic task, 16 an event task.
	if valid[1] != 10*2 || valid[2] != 16*3*4*2 || len(valid) != 5 || valid[0]+valid[3]+valid[-1] != 0 {
		t.Error("valid tasks by kind", valid)
	}
}

// programOf has no output that is true in Safe.
func programOf(kinds []int, list []impl.Routine, tasks ...impl.Task) impl.Program {
	return impl.Program{Kinds: kinds, Routines: list, Tasks: tasks, Safe: make([]bool, 8)}
}

// plainProgram is valid, and stays so if a kind, an instruction or a routine is added or taken away.
func plainProgram() impl.Program {
	p := programOf([]int{1, 4, 2}, routinesOf("cut", "push 7; store 0; in 3; out 4", "call 0; call 0", ""), event(20, 9, 3, 2, 1), cyclic(200, 90, 2), cyclic(300, 300, 0))
	p.Safe[1], p.Safe[7] = true, true
	return p
}

// fullProgram has as many parts as a program may have, the longest code among them.
func fullProgram() impl.Program {
	long := strings.Repeat("push -7; store 3;", 20)
	return programOf(fullKinds(), routinesOf(long, long, long, long, long, long), cyclic(5000, 5000, 5), event(5000, 5000, 7, 4, 5), event(1, 1, 0, 1, 0), cyclic(1, 1, 0), event(256, 1000, 5, 3, 4))
}

// mixedProgram is a valid program without regularity.
func mixedProgram(r *rand.Rand) impl.Program {
	kinds := randomKinds(r)
	p := programOf(kinds, callingRoutines(r, kinds, 40))
	for range 1 + r.Intn(5) {
		p.Tasks = append(p.Tasks, mixedTask(r, len(p.Routines)))
	}
	for i := range p.Safe {
		p.Safe[i] = r.Intn(2) > 0
	}
	return p
}

func mixedTask(r *rand.Rand, routines int) impl.Task {
	times := []int{1, 2, 126, 127, 128, 129, 255, 256, 257, 4999, 5000, 1 + r.Intn(5000), 1 + r.Intn(5000)}
	a, b := times[r.Intn(len(times))], times[r.Intn(len(times))]
	if r.Intn(2) > 0 {
		return cyclic(max(a, b), min(a, b), r.Intn(routines))
	}
	return event(a, b, r.Intn(8), 1+r.Intn(4), r.Intn(routines))
}

func copyOfRoutines(list []impl.Routine) []impl.Routine {
	list = slices.Clone(list)
	for k := range list {
		list[k].Code = slices.Clone(list[k].Code)
	}
	return list
}

func copyOfProgram(p impl.Program) impl.Program {
	return impl.Program{Kinds: slices.Clone(p.Kinds), Routines: copyOfRoutines(p.Routines), Tasks: slices.Clone(p.Tasks), Safe: slices.Clone(p.Safe)}
}

// changedProgram returns a copy with one change.
func changedProgram(p impl.Program, change func(*impl.Program)) impl.Program {
	p = copyOfProgram(p)
	change(&p)
	return p
}

// equalPrograms compares all fields of any two programs, whether they are valid or not.
func equalPrograms(a, b impl.Program) bool {
	return slices.Equal(a.Kinds, b.Kinds) && sameRoutines(a.Routines, b.Routines) && slices.Equal(a.Tasks, b.Tasks) && slices.Equal(a.Safe, b.Safe)
}

func isZeroProgram(p impl.Program) bool {
	return equalPrograms(p, impl.Program{})
}

func instrByRule(x impl.Instr) bool {
	if x.Op < 1 || x.Op > 26 {
		return false
	}
	row := opTable()[x.Op-1]
	return row.low <= x.A && x.A <= row.high
}

// checkByRule is the reference for CheckProgram.
func checkByRule(p impl.Program) (int, int) {
	bad := len(p.Kinds) > 8 || len(p.Routines) > 6 || len(p.Safe) != 8
	for _, kind := range p.Kinds {
		bad = bad || kind < 1 || kind > 4
	}
	for _, routine := range p.Routines {
		bad = bad || len(routine.Code) > 40
		for _, x := range routine.Code {
			bad = bad || !instrByRule(x)
		}
	}
	if bad {
		return 0, impl.ErrBad
	}
	for k, routine := range p.Routines {
		if v, _ := judge(routine.Code, p.Kinds, k); v.code != 0 {
			return k, v.code
		}
	}
	if len(p.Tasks) == 0 {
		return 0, impl.ErrNone
	}
	if len(p.Tasks) > 5 {
		return 0, impl.ErrMany
	}
	for k, x := range p.Tasks {
		if !taskByRule(x) {
			return k, impl.ErrKind
		}
		if x.Routine >= len(p.Routines) {
			return k, impl.ErrCall
		}
	}
	return 0, impl.OK
}

// wantProgram compares CheckProgram, and what ImageText and SameProgram make of its result.
func wantProgram(t *testing.T, p impl.Program, k, want int) {
	t.Helper()
	if got, code := impl.CheckProgram(p); got != k || code != want {
		t.Errorf("CheckProgram(%s) = %d, %d, want %d, %d", brief(p), got, code, k, want)
	}
	image, imageCode := "", impl.ErrBad
	if want == impl.OK {
		image, imageCode = goodFrame(payloadOf(p)), impl.OK
	}
	if s, code := impl.ImageText(p); s != image || code != imageCode {
		t.Errorf("ImageText(%s) = %x, %d, want %x, %d", brief(p), short(s), code, short(image), imageCode)
	}
	wantSameProgram(t, p, p, want == impl.OK)
	wantSameProgram(t, p, copyOfProgram(p), want == impl.OK)
}

func checkProgram(t *testing.T, p impl.Program) int {
	t.Helper()
	k, code := checkByRule(p)
	wantProgram(t, p, k, code)
	return code
}

func wantSameProgram(t *testing.T, a, b impl.Program, want bool) {
	t.Helper()
	if x, y := impl.SameProgram(a, b), impl.SameProgram(b, a); x != want || y != want {
		t.Errorf("SameProgram of %s and %s is %v, and %v the other way round, want %v", brief(a), brief(b), x, y, want)
	}
}

// An ill program has the result of CheckProgram beside it.
type illProgram struct {
	program impl.Program
	k, code int
}

// badPrograms holds programs with exactly one cause of ErrBad.
func badPrograms() []illProgram {
	var list []illProgram
	add := func(change func(*impl.Program)) {
		list = append(list, illProgram{changedProgram(plainProgram(), change), 0, impl.ErrBad})
	}
	for _, kind := range otherKinds() {
		for i := range 3 {
			add(func(p *impl.Program) { p.Kinds[i] = kind })
		}
		add(func(p *impl.Program) { p.Kinds = append(slices.Repeat([]int{2}, 7), kind) })
	}
	for _, n := range []int{9, 10, 128, 255, 256, 257, longestList, longestList + 1} {
		add(func(p *impl.Program) { p.Kinds = slices.Repeat([]int{3}, n) })
	}
	for _, n := range []int{7, 8, 128, 256, 257, longestList, longestList + 1} {
		add(func(p *impl.Program) { p.Routines = make([]impl.Routine, n) })
	}
	for k := range 4 {
		for _, n := range []int{41, 42, 256, longestList, longestList + 1} {
			add(func(p *impl.Program) { p.Routines[k].Code = slices.Repeat(parse("cut"), n) })
		}
		for _, x := range []impl.Instr{{}, {Op: 27}, {Op: 256 + 25}, {Op: math.MinInt}, {Op: 25, A: 1}, {Op: 24}, {Op: 24, A: 21}, {Op: 26, A: 6}, {Op: 19, A: 8}, {Op: 1, A: largestValue + 1}} {
			add(func(p *impl.Program) { p.Routines[k].Code = append(p.Routines[k].Code, x) })
		}
	}
	for _, n := range []int{0, 1, 7, 9, 16, 256, 264, longestList, longestList + 1} {
		add(func(p *impl.Program) { p.Safe = make([]bool, n) })
	}
	return list
}

// refusedPrograms holds programs of which the verifier refuses exactly one routine.
func refusedPrograms() []illProgram {
	var list []illProgram
	for _, v := range []struct {
		text string
		code int
	}{
		{"value 3; store 0", impl.ErrNone}, {"in 0; block 3; out 0", impl.ErrNone}, {"cut; call 5", impl.ErrCall},
		{"add", impl.ErrStack}, {"push 1", impl.ErrStack}, {"push 1; not", impl.ErrType}, {strings.Repeat("push 1;", 9), impl.ErrFull},
		{strings.Repeat("repeat 1;", 5), impl.ErrDepth}, {"end", impl.ErrNest}, {"cut; repeat 2", impl.ErrNest},
	} {
		for k := range 4 {
			p := plainProgram()
			p.Routines[k].Code = parse(v.text)
			list = append(list, illProgram{p, k, v.code})
		}
	}
	for k := range 4 {
		// A routine that calls itself, and one that calls the next one.
		for _, other := range []int{k, k + 1} {
			p := plainProgram()
			p.Routines[k].Code = []impl.Instr{{Op: 26, A: other}}
			list = append(list, illProgram{p, k, impl.ErrCall})
		}
	}
	return list
}

// tasklessPrograms have no tasks or too many, all of which are valid.
func tasklessPrograms() []illProgram {
	var list []illProgram
	for _, v := range []struct{ n, code int }{{0, impl.ErrNone}, {6, impl.ErrMany}, {7, impl.ErrMany}, {255, impl.ErrMany}, {256, impl.ErrMany}, {257, impl.ErrMany}, {longestList, impl.ErrMany}, {longestList + 1, impl.ErrMany}} {
		p := plainProgram()
		p.Tasks = slices.Repeat([]impl.Task{cyclic(9, 9, 0)}, v.n)
		list = append(list, illProgram{p, 0, v.code})
	}
	return list
}

func TestCheckProgram(t *testing.T) {
	r := rand.New(rand.NewSource(91))
	for _, p := range []impl.Program{plainProgram(), fullProgram(), demoByHand(), programOf(nil, make([]impl.Routine, 1), cyclic(1, 1, 0))} {
		wantProgram(t, p, 0, impl.OK)
	}
	for range 500 {
		wantProgram(t, mixedProgram(r), 0, impl.OK)
	}
	for n := range 9 {
		wantProgram(t, changedProgram(plainProgram(), func(p *impl.Program) { p.Kinds = fullKinds()[:n] }), 0, impl.OK)
	}
	for n := 1; n <= 5; n++ {
		p := plainProgram()
		p.Tasks = slices.Repeat([]impl.Task{event(1, 5000, 7, 4, 3)}, n)
		wantProgram(t, p, 0, impl.OK)
	}
	wantProgram(t, impl.Program{}, 0, impl.ErrBad)
}

func TestCheckProgramAlone(t *testing.T) {
	for _, v := range slices.Concat(badPrograms(), refusedPrograms(), tasklessPrograms()) {
		wantProgram(t, v.program, v.k, v.code)
		if k, code := checkByRule(v.program); k != v.k || code != v.code {
			t.Error("by rule", k, code, "want", v.k, v.code)
		}
	}
}

// worseTasks replaces the tasks by others that are wrong in each way.
func worseTasks() []func(*impl.Program) {
	return []func(*impl.Program){
		func(p *impl.Program) { p.Tasks = nil },
		func(p *impl.Program) { p.Tasks = make([]impl.Task, 6) },
		func(p *impl.Program) { p.Tasks = slices.Repeat([]impl.Task{cyclic(9, 9, 0)}, longestList+1) },
		func(p *impl.Program) { p.Tasks[1].Kind = 3 },
		func(p *impl.Program) { p.Tasks[0].Routine = 5 },
		func(p *impl.Program) { p.Tasks[0].Routine = 6 },
	}
}

// ErrBad comes before the verification of any routine and before all tasks.
func TestCheckProgramBadFirst(t *testing.T) {
	for _, v := range badPrograms() {
		for _, change := range worseTasks() {
			wantProgram(t, changedProgram(v.program, change), 0, impl.ErrBad)
		}
		if len(v.program.Routines) == 4 {
			for k := range 4 {
				worse := changedProgram(v.program, func(p *impl.Program) { p.Routines[k].Code = append(parse("add"), p.Routines[k].Code...) })
				wantProgram(t, worse, 0, impl.ErrBad)
			}
		}
	}
}

// The codes of the verifier come before all tasks, and the first routine before the others.
func TestCheckProgramVerifies(t *testing.T) {
	for _, v := range refusedPrograms() {
		for _, change := range worseTasks() {
			wantProgram(t, changedProgram(v.program, change), v.k, v.code)
		}
		for k := v.k + 1; k < 4; k++ {
			worse := changedProgram(v.program, func(p *impl.Program) { p.Routines[k].Code = parse("cut; end") })
			wantProgram(t, worse, v.k, v.code)
		}
		for k := range v.k {
			worse := changedProgram(v.program, func(p *impl.Program) { p.Routines[k].Code = parse("cut; not") })
			wantProgram(t, worse, k, impl.ErrStack)
		}
	}
	// The blocks that code names are those of Kinds.
	p := programOf([]int{3}, routinesOf("in 0; block 0; out 0", "value 1; store 0"), cyclic(9, 9, 0))
	wantProgram(t, p, 1, impl.ErrNone)
	p.Kinds = []int{3, 1}
	wantProgram(t, p, 0, impl.OK)
	p.Kinds = []int{2, 1}
	wantProgram(t, p, 0, impl.ErrStack)
}

// The number of tasks comes before what is wrong with any of them.
func TestCheckProgramOfNumbersOfTasks(t *testing.T) {
	for _, n := range []int{6, 7, longestList, longestList + 1} {
		for _, x := range []impl.Task{{}, cyclic(9, 10, 0), cyclic(9, 9, 5), cyclic(9, 9, 6)} {
			p := plainProgram()
			p.Tasks = slices.Repeat([]impl.Task{x}, n)
			wantProgram(t, p, 0, impl.ErrMany)
		}
	}
	wantProgram(t, programOf(nil, nil), 0, impl.ErrNone)
	wantProgram(t, programOf(nil, nil, make([]impl.Task, 6)...), 0, impl.ErrMany)
	wantProgram(t, impl.Program{Safe: make([]bool, 8), Tasks: []impl.Task{}}, 0, impl.ErrNone)
}

func TestCheckProgramOfTasks(t *testing.T) {
	good := cyclic(9, 9, 0)
	for n := 1; n <= 5; n++ {
		for k := range n {
			for _, x := range invalidTasks() {
				p := programOf(nil, make([]impl.Routine, 6), slices.Repeat([]impl.Task{good}, n)...)
				p.Tasks[k] = x
				if got, code := impl.CheckProgram(p); got != k || code != impl.ErrKind {
					t.Fatalf("CheckProgram with %v as task %d = %d, %d", x, k, got, code)
				}
			}
		}
	}
	for routines := range 7 {
		for routine := range 8 {
			for _, x := range []impl.Task{cyclic(5, 4, routine), event(5, 6, 7, 4, routine)} {
				want := impl.OK
				switch {
				case routine > 5:
					want = impl.ErrKind
				case routine >= routines:
					want = impl.ErrCall
				}
				wantProgram(t, programOf(nil, make([]impl.Routine, routines), x), 0, want)
			}
		}
	}
}

// The first task that has an error counts; of its own errors ErrKind comes first.
func TestCheckProgramOfTasksInTurn(t *testing.T) {
	kind, call, both := cyclic(9, 10, 0), cyclic(9, 9, 2), cyclic(9, 10, 2)
	good := event(9, 10, 1, 1, 1)
	for _, v := range []struct {
		tasks   []impl.Task
		k, code int
	}{
		{[]impl.Task{kind}, 0, impl.ErrKind}, {[]impl.Task{call}, 0, impl.ErrCall}, {[]impl.Task{both}, 0, impl.ErrKind},
		{[]impl.Task{kind, call}, 0, impl.ErrKind}, {[]impl.Task{call, kind}, 0, impl.ErrCall}, {[]impl.Task{call, both}, 0, impl.ErrCall}, {[]impl.Task{both, call}, 0, impl.ErrKind},
		{[]impl.Task{good, call, kind}, 1, impl.ErrCall}, {[]impl.Task{good, kind, call}, 1, impl.ErrKind}, {[]impl.Task{good, good, good, good, call}, 4, impl.ErrCall},
		{[]impl.Task{good, good, good, both, call}, 3, impl.ErrKind}, {[]impl.Task{good, good, call, good, kind}, 2, impl.ErrCall}, {[]impl.Task{good, {}, call}, 1, impl.ErrKind},
	} {
		wantProgram(t, programOf(nil, make([]impl.Routine, 2), v.tasks...), v.k, v.code)
	}
}

// changeProgram makes a program differ in one place or so, which may make it invalid.
func changeProgram(r *rand.Rand, p *impl.Program) {
	switch r.Intn(7) {
	case 0:
		p.Kinds = append(p.Kinds, 1+r.Intn(5))
	case 1:
		if len(p.Kinds) > 0 {
			p.Kinds = p.Kinds[1:]
		}
	case 2:
		if k := r.Intn(len(p.Routines) + 1); k < len(p.Routines) {
			p.Routines[k].Code = mutate(r, p.Routines[k].Code)
		}
	case 3:
		p.Routines = p.Routines[:r.Intn(len(p.Routines)+1)]
	case 4:
		p.Tasks = append(p.Tasks, mixedTask(r, 6))
	case 5:
		if len(p.Tasks) > 0 {
			k := r.Intn(len(p.Tasks))
			*taskFields(&p.Tasks[k])[r.Intn(6)] = []int{-1, 0, 1, 2, 3, 4, 5, 6, 7, 8, 5000, 5001}[r.Intn(12)]
		}
	case 6:
		if i := r.Intn(40); i < 8 {
			p.Safe[i] = !p.Safe[i]
		} else if i == 8 {
			p.Safe = p.Safe[:7]
		}
	}
}

func TestCheckProgramOfChangedPrograms(t *testing.T) {
	r := rand.New(rand.NewSource(92))
	seen := map[int]int{}
	for range 4000 {
		p := mixedProgram(r)
		for range r.Intn(4) {
			if len(p.Safe) == 8 {
				changeProgram(r, &p)
			}
		}
		seen[checkProgram(t, p)]++
	}
	for _, code := range []int{0, impl.ErrBad, impl.ErrNone, impl.ErrMany, impl.ErrKind, impl.ErrCall, impl.ErrStack, impl.ErrType, impl.ErrNest} {
		if seen[code] < 20 {
			t.Error("code", code, "was seen", seen[code], "times")
		}
	}
}

// otherPrograms holds valid programs that differ from plainProgram in one place each.
func otherPrograms() []impl.Program {
	var list []impl.Program
	add := func(change func(*impl.Program)) { list = append(list, changedProgram(plainProgram(), change)) }
	add(func(p *impl.Program) { p.Kinds = nil })
	add(func(p *impl.Program) { p.Kinds = append(p.Kinds, 1) })
	add(func(p *impl.Program) { p.Kinds[0], p.Kinds[1] = p.Kinds[1], p.Kinds[0] })
	for i := range 3 {
		add(func(p *impl.Program) { p.Kinds[i] = 3 })
		add(func(p *impl.Program) { p.Kinds = slices.Delete(p.Kinds, i, i+1) })
	}
	add(func(p *impl.Program) { p.Routines = append(p.Routines, impl.Routine{}) })
	add(func(p *impl.Program) { p.Routines = p.Routines[:3] })
	add(func(p *impl.Program) { p.Routines[1].Code[0].A = 8 })
	add(func(p *impl.Program) { p.Routines[1].Code[1].A = 1 })
	add(func(p *impl.Program) { p.Routines[1].Code[2].Op = 7 })
	add(func(p *impl.Program) { p.Routines[0], p.Routines[3] = p.Routines[3], p.Routines[0] })
	for k := range 4 {
		add(func(p *impl.Program) { p.Routines[k].Code = append(p.Routines[k].Code, impl.Instr{Op: 25}) })
		add(func(p *impl.Program) { p.Routines[k].Code = parse("repeat 1; end") })
	}
	add(func(p *impl.Program) { p.Tasks = append(p.Tasks, cyclic(9, 9, 0)) })
	add(func(p *impl.Program) { p.Tasks[0], p.Tasks[1] = p.Tasks[1], p.Tasks[0] })
	for k := range 3 {
		add(func(p *impl.Program) { p.Tasks = slices.Delete(p.Tasks, k, k+1) })
		add(func(p *impl.Program) { p.Tasks[k].Period = 301 })
		add(func(p *impl.Program) { p.Tasks[k].Deadline = 10 })
		add(func(p *impl.Program) { p.Tasks[k].Routine = 3 })
	}
	add(func(p *impl.Program) { p.Tasks[0].Pin = 2 })
	add(func(p *impl.Program) { p.Tasks[0].Queue = 3 })
	add(func(p *impl.Program) { p.Tasks[1].Kind = 2 })
	for i := range 8 {
		add(func(p *impl.Program) { p.Safe[i] = !p.Safe[i] })
	}
	return list
}

func TestSameProgram(t *testing.T) {
	list := append(otherPrograms(), plainProgram())
	for i, a := range list {
		if k, code := impl.CheckProgram(a); code != 0 {
			t.Fatal("program", i, "is not valid:", k, code)
		}
		for k, b := range list {
			wantSameProgram(t, a, copyOfProgram(b), i == k)
		}
	}
}

func TestSameProgramOfInvalidPrograms(t *testing.T) {
	for _, v := range slices.Concat(badPrograms(), refusedPrograms(), tasklessPrograms()) {
		wantSameProgram(t, v.program, v.program, false)
		wantSameProgram(t, v.program, plainProgram(), false)
	}
	for _, x := range invalidTasks()[:40] {
		p := plainProgram()
		p.Tasks[1] = x
		wantSameProgram(t, p, copyOfProgram(p), false)
	}
	wantSameProgram(t, impl.Program{}, impl.Program{}, false)
	wantSameProgram(t, impl.Program{}, plainProgram(), false)
}

// An empty list and nil are the same, also inside a program.
func TestSameProgramOfEmptyLists(t *testing.T) {
	p := programOf(nil, make([]impl.Routine, 2), cyclic(1, 1, 1))
	q := programOf([]int{}, []impl.Routine{{Code: []impl.Instr{}}, {Code: make([]impl.Instr, 0, 9)}}, cyclic(1, 1, 1))
	wantSameProgram(t, p, q, true)
	a, _ := impl.ImageText(p)
	b, _ := impl.ImageText(q)
	if a != b || a == "" {
		t.Errorf("the images %x and %x", a, b)
	}
}

// demoByHand is the program that chapter 9 describes.
func demoByHand() impl.Program {
	p := programOf([]int{1, 2}, routinesOf("load 0; push 1; add; store 0", "call 0; in 1; poke 1", "in 2; push 30; block 0; out 2; cut; repeat 3; load 1; push 2; add; store 1; cut; end"),
		event(40, 30, 0, 1, 1), cyclic(100, 90, 2))
	p.Safe[0] = true
	return p
}

func TestDemoProgram(t *testing.T) {
	p := impl.DemoProgram()
	if !equalPrograms(p, demoByHand()) {
		t.Error("DemoProgram", p, "want", demoByHand())
	}
	wantProgram(t, p, 0, impl.OK)
	wantSameProgram(t, p, demoByHand(), true)
	wantSameProgram(t, p, plainProgram(), false)
}
