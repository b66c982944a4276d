package tests

import (
	"math/rand"
	"slices"
	"testing"

	"loop.example/g00684/impl"
)

// A part is a slice of an argument or of a result, with its unused capacity and, for an argument, what is around it.
type part struct {
	name  string
	size  int
	keep  func() func() bool // the second function reports whether all elements are as they were when the first one was called
	spoil func()             // changes every element
}

func partOf[E comparable](name string, list []E, other func(E) E) part {
	return partBy(name, list, func(a, b E) bool { return a == b }, other)
}

func partBy[E any](name string, list []E, same func(E, E) bool, other func(E) E) part {
	all := list[:cap(list)]
	keep := func() func() bool {
		before := slices.Clone(all)
		return func() bool { return slices.EqualFunc(all, before, same) }
	}
	return part{name, len(all), keep, func() {
		for i, e := range all {
			all[i] = other(e)
		}
	}}
}

// isOneList reports whether two lists are one in memory.
func isOneList[E any](a, b []E) bool {
	return len(a) == len(b) && (len(a) == 0 || &a[0] == &b[0])
}

func intsPart(name string, list []int) part {
	return partOf(name, list, func(n int) int { return ^n })
}

func boolsPart(name string, list []bool) part {
	return partOf(name, list, func(b bool) bool { return !b })
}

// partsOf returns the slices of a state.
func partsOf(d impl.Data) []part {
	return []part{
		intsPart("Globals", d.Globals),
		partOf("Blocks", d.Blocks, func(f impl.Fb) impl.Fb { return impl.Fb{Kind: f.Kind + 1, On: !f.On, Start: ^f.Start, Count: ^f.Count} }),
		boolsPart("Latched", d.Latched), boolsPart("Pins", d.Pins), boolsPart("Outs", d.Outs), boolsPart("Wires", d.Wires),
	}
}

// withinData copies each slice into the middle of a longer one; the second result has that memory.
func withinData(d impl.Data) (impl.Data, impl.Data) {
	all := d
	d.Globals, all.Globals = within(d.Globals, 17)
	d.Blocks, all.Blocks = within(d.Blocks, impl.Fb{Kind: 2, Count: 3})
	for i, pins := range pinsOf(&d) {
		*pins, *pinsOf(&all)[i] = within(*pins, true)
	}
	return d, all
}

// framesPart is like partOf. A frame changes if another list of counters takes the place of its own; the counters are parts themselves.
func framesPart(list []impl.Frame) part {
	same := func(f, g impl.Frame) bool {
		return f.Routine == g.Routine && f.Pc == g.Pc && isOneList(f.Loops, g.Loops)
	}
	return partBy("Frames", list, same, func(f impl.Frame) impl.Frame {
		return impl.Frame{Routine: ^f.Routine, Pc: ^f.Pc, Loops: []int{1}}
	})
}

// coreParts returns the slices of a core, also those of frames in unused capacity.
func coreParts(c impl.Core) []part {
	list := []part{framesPart(c.Frames), intsPart("Stack", c.Stack)}
	for _, f := range c.Frames[:cap(c.Frames)] {
		list = append(list, intsPart("Loops", f.Loops))
	}
	return list
}

// withinCore copies each slice into the middle of a longer one; the parts are that memory.
func withinCore(c impl.Core) (impl.Core, []part) {
	stack, allStack := within(c.Stack, 1)
	frames, allFrames := within(c.Frames, impl.Frame{Pc: 1, Loops: []int{2}})
	list := []part{framesPart(allFrames), intsPart("Stack", allStack)}
	for i, f := range frames {
		loops, all := within(f.Loops, 2)
		frames[i].Loops = loops
		list = append(list, intsPart("Loops", all))
	}
	return coreOf(stack, frames...), list
}

// keepAll returns a function that names the parts which were changed since.
func keepAll(list []part) func() []string {
	var tests []func() bool
	for _, p := range list {
		tests = append(tests, p.keep())
	}
	return func() []string {
		var names []string
		for i, same := range tests {
			if !same() {
				names = append(names, list[i].name)
			}
		}
		return names
	}
}

// wantApart calls a function that returns slices. The arguments stay unchanged, then and when a result is changed, and so do the other results.
func wantApart(t *testing.T, name string, arguments []part, results func() []part) {
	t.Helper()
	changes := keepAll(arguments)
	list := results()
	if names := changes(); len(names) > 0 {
		t.Fatal(name, "changed its arguments or the memory around them:", names)
	}
	for i, p := range list {
		if p.size == 0 {
			continue
		}
		changes := keepAll(slices.Concat(arguments, list[:i], list[i+1:]))
		p.spoil()
		if names := changes(); len(names) > 0 {
			t.Fatal(name, "returns", p.name, "in the memory of", names)
		}
	}
}

func TestDataIsApart(t *testing.T) {
	for _, kinds := range edgeKinds() {
		inside, all := within(kinds, 3)
		arguments := []part{intsPart("kinds", all)}
		wantApart(t, "NewData", arguments, func() []part {
			d, _ := impl.NewData(inside)
			return partsOf(d)
		})
	}
	for _, d := range edgeDatas() {
		inside, all := withinData(d)
		wantApart(t, "KindsOf", partsOf(all), func() []part {
			kinds, _ := impl.KindsOf(inside)
			return []part{intsPart("kinds", kinds)}
		})
		wantApart(t, "DataOK and SameData", partsOf(all), func() []part {
			impl.DataOK(inside)
			impl.SameData(inside, inside)
			impl.SameData(inside, d)
			impl.SameData(d, inside)
			return nil
		})
	}
}

func TestApplyIsApart(t *testing.T) {
	for _, d := range edgeDatas() {
		insideData, allData := withinData(d)
		for _, stack := range edgeStacks() {
			insideStack, allStack := within(stack, 1)
			arguments := append(partsOf(allData), intsPart("stack", allStack))
			for _, x := range edgeInstrs() {
				wantApart(t, "ApplyOp", arguments, func() []part {
					y, list, _ := impl.ApplyOp(insideData, x, insideStack, 5)
					return append(partsOf(y), intsPart("the resulting stack", list))
				})
			}
		}
	}
}

// routineParts returns the memory of a list and of its code.
func routineParts(all []impl.Routine, memory [][]impl.Instr) []part {
	list := []part{{name: "list", keep: func() func() bool {
		before := slices.Clone(all)
		return func() bool { return sameRoutines(all, before) }
	}}}
	for _, code := range memory {
		list = append(list, codeMemory(code))
	}
	return list
}

func codeMemory(code []impl.Instr) part {
	return partOf("code", code, func(x impl.Instr) impl.Instr { return impl.Instr{Op: ^x.Op, A: ^x.A} })
}

// programParts returns the slices of a program, also those of routines in unused capacity.
func programParts(p impl.Program) []part {
	same := func(a, b impl.Routine) bool { return isOneList(a.Code, b.Code) }
	list := []part{
		intsPart("Kinds", p.Kinds),
		partBy("Routines", p.Routines, same, func(impl.Routine) impl.Routine { return impl.Routine{Code: parse("cut")} }),
		partOf("Tasks", p.Tasks, func(x impl.Task) impl.Task { return impl.Task{Kind: ^x.Kind, Period: ^x.Period, Queue: ^x.Queue} }),
		boolsPart("Safe", p.Safe),
	}
	for _, routine := range p.Routines[:cap(p.Routines)] {
		list = append(list, codeMemory(routine.Code))
	}
	return list
}

// withinProgram copies each slice into the middle of a longer one; the parts are that memory.
func withinProgram(p impl.Program) (impl.Program, []part) {
	var all impl.Program
	var codes [][]impl.Instr
	p.Kinds, all.Kinds = within(p.Kinds, 4)
	p.Routines, all.Routines, codes = withinRoutines(p.Routines)
	p.Tasks, all.Tasks = within(p.Tasks, cyclic(9, 8, 7))
	p.Safe, all.Safe = within(p.Safe, true)
	list := programParts(all)
	for _, code := range codes {
		list = append(list, codeMemory(code))
	}
	return p, list
}

func boundsPart(list []impl.Bound) part {
	return partOf("bounds", list, func(b impl.Bound) impl.Bound { return impl.Bound{Cost: ^b.Cost, Blocking: ^b.Blocking} })
}

func TestProgramIsApart(t *testing.T) {
	r := rand.New(rand.NewSource(53))
	list := edgePrograms()
	for range 300 {
		list = append(list, mixedProgram(r), drawnProgram(r))
	}
	for _, p := range list {
		inside, arguments := withinProgram(p)
		wantApart(t, "CheckProgram, ImageText or SameProgram", arguments, func() []part {
			impl.CheckProgram(inside)
			impl.ImageText(inside)
			impl.SameProgram(inside, inside)
			impl.SameProgram(inside, p)
			impl.SameProgram(p, inside)
			return nil
		})
		wantApart(t, "BoundsOf, AdmitProgram or LoadOf", arguments, func() []part {
			impl.LoadOf(inside)
			a, _ := impl.BoundsOf(inside)
			b, _, _ := impl.AdmitProgram(inside)
			c, _ := impl.BoundsOf(inside)
			d, _, _ := impl.AdmitProgram(inside)
			return []part{boundsPart(a), boundsPart(b), boundsPart(c), boundsPart(d)}
		})
		image, _ := impl.ImageText(p)
		wantApart(t, "ReadImage", arguments, func() []part {
			first, _ := impl.ReadImage(image)
			second, _ := impl.ReadImage(image)
			return append(programParts(first), programParts(second)...)
		})
	}
	wantApart(t, "DemoProgram", nil, func() []part {
		return append(programParts(impl.DemoProgram()), programParts(impl.DemoProgram())...)
	})
	if !equalPrograms(impl.DemoProgram(), demoByHand()) {
		t.Error("the demo program was changed by its callers")
	}
}

// Changing the bounds of one call changes nothing in those of the next one.
func TestBoundsAreNew(t *testing.T) {
	first, _, _ := impl.AdmitProgram(easyProgram())
	clear(first[:cap(first)])
	second, _ := impl.BoundsOf(easyProgram())
	clear(second[:cap(second)])
	wantAdmitted(t, easyProgram(), easyBounds()...)
	wantBoundsOf(t, easyProgram(), easyBounds(), impl.OK)
}

func TestWorkStaysUnchanged(t *testing.T) {
	for _, costs := range edgeWork() {
		insideCosts, allCosts := within(costs, 7)
		for _, periods := range edgeWork() {
			insidePeriods, allPeriods := within(periods, 8)
			wantApart(t, "BusyPeriod", []part{intsPart("costs", allCosts), intsPart("periods", allPeriods)}, func() []part {
				for _, n := range []int{-1, 0, 5000, 5001} {
					impl.BusyPeriod(insideCosts, insidePeriods, n)
				}
				return nil
			})
			wantSame(t, busyCalls(costs, periods), busyCalls(insideCosts, insidePeriods))
		}
	}
	wantSame(t, busyCalls(nil, nil), busyCalls([]int{}, []int{}))
	wantSame(t, busyCalls(nil, []int{1}), busyCalls([]int{}, []int{1}))
	// One list that is both.
	both := []int{1000, 500}
	wantBusy(t, both, both, 0, 0, impl.ErrLoad)
	wantBusy(t, both[:1], both[:1], 0, 1000, impl.OK)
	if !slices.Equal(both, []int{1000, 500}) {
		t.Error("the lists were changed:", both)
	}
}

// withinSource copies the queue into the middle of a longer list, which is the part.
func withinSource(x impl.Source) (impl.Source, []part) {
	queue, all := within(x.Queue, 60)
	x.Queue = queue
	return x, []part{queuePart(all)}
}

func queuePart(list []int) part {
	return intsPart("Queue", list)
}

// Each function is called twice, since its results share no memory with those of an earlier call either.
func TestSourceIsApart(t *testing.T) {
	for _, x := range edgeSources() {
		inside, arguments := withinSource(x)
		for _, task := range append(sourceTasks(), impl.Task{}, queueTask(5)) {
			for _, now := range []int{-1, 49, 50, 59, 60, 61, 5050, largestValue} {
				wantApart(t, "OfferEvent", arguments, func() []part {
					y, _ := impl.OfferEvent(inside, task, now)
					z, _ := impl.OfferEvent(inside, task, now)
					return []part{queuePart(y.Queue), queuePart(z.Queue)}
				})
			}
			wantApart(t, "TakeEvent", arguments, func() []part {
				y, _, _ := impl.TakeEvent(inside, task)
				z, _, _ := impl.TakeEvent(inside, task)
				return []part{queuePart(y.Queue), queuePart(z.Queue)}
			})
			wantApart(t, "DropEvents", arguments, func() []part {
				y, _ := impl.DropEvents(inside, task, false)
				z, _ := impl.DropEvents(inside, task, true)
				return []part{queuePart(y.Queue), queuePart(z.Queue)}
			})
			wantApart(t, "SourceOK, BalanceOf or SourceText", arguments, func() []part {
				impl.SourceOK(inside, task)
				impl.BalanceOf(inside, task)
				impl.SourceText(inside, task)
				return nil
			})
		}
	}
	wantApart(t, "NewSource", nil, func() []part {
		return []part{queuePart(impl.NewSource().Queue), queuePart(impl.NewSource().Queue)}
	})
}

// A queue is filled in memory that has room behind it, and each source on the way stays as it was.
func TestSourcesInSequence(t *testing.T) {
	task := queueTask(4)
	queue, _ := within([]int{50}, 7)
	list := []impl.Source{{Last: 50, Queue: queue}}
	for _, now := range []int{60, 70, 80, 90, 91} {
		y, _ := impl.OfferEvent(list[len(list)-1], task, now)
		list = append(list, y)
	}
	for range 5 {
		y, _, _ := impl.TakeEvent(list[len(list)-1], task)
		list = append(list, y)
	}
	for i, want := range [][]int{{50}, {50, 60}, {50, 60, 70}, {50, 60, 70, 80}, {50, 60, 70, 80}, {50, 60, 70, 80}, {60, 70, 80}, {70, 80}, {80}, {}, {}} {
		if !slices.Equal(list[i].Queue, want) {
			t.Error("source", i, "is", list[i], "want the queue", want)
		}
	}
	// Two releases that follow the same source.
	a, _ := impl.OfferEvent(list[1], task, 75)
	b, _ := impl.OfferEvent(list[1], task, 76)
	if !slices.Equal(a.Queue, []int{50, 60, 75}) || !slices.Equal(b.Queue, []int{50, 60, 76}) {
		t.Error("OfferEvent", a, b)
	}
}

func TestRisesAreApart(t *testing.T) {
	for _, old := range edgePins() {
		insideOld, allOld := within(old, true)
		for _, now := range edgePins() {
			insideNow, allNow := within(now, false)
			wantApart(t, "RisesOf", []part{boolsPart("old", allOld), boolsPart("now", allNow)}, func() []part {
				a, _ := impl.RisesOf(insideOld, insideNow)
				b, _ := impl.RisesOf(insideOld, insideNow)
				return []part{intsPart("pins", a), intsPart("pins", b)}
			})
			wantSame(t, riseCalls(old, now), riseCalls(insideOld, insideNow))
		}
	}
	wantSame(t, riseCalls(nil, nil), riseCalls([]bool{}, []bool{}))
	// One list that is both.
	both := pinsOn(2, 5)
	wantRises(t, both, both, nil, impl.OK)
	if !slices.Equal(both, pinsOn(2, 5)) {
		t.Error("the pins were changed:", both)
	}
}

// The same source in other memory, and nil in place of an empty queue, yield the same results.
func TestEqualSources(t *testing.T) {
	for _, x := range edgeSources() {
		inside, _ := withinSource(x)
		for _, task := range append(sourceTasks(), impl.Task{}) {
			wantSame(t, sourceCalls(x, task), sourceCalls(inside, task))
		}
	}
	for _, last := range []int{-1, 0, 50} {
		nothing, empty := sourceOf(last), sourceOf(last, make([]int, 0, 9)...)
		nothing.Queue = nil
		wantSame(t, sourceCalls(nothing, queueTask(2)), sourceCalls(empty, queueTask(2)))
	}
}

// plcParts returns the slices of a processor, also those of sources and jobs in unused capacity.
func plcParts(x impl.Plc) []part {
	list := append(programParts(x.Program), partsOf(x.Data)...)
	for _, s := range x.Sources[:cap(x.Sources)] {
		list = append(list, queuePart(s.Queue))
	}
	for _, j := range x.Jobs[:cap(x.Jobs)] {
		list = append(list, boolsPart("Latched of a job", j.Latched), boolsPart("Outs of a job", j.Outs), boolsPart("First of a job", j.First))
		list = append(list, coreParts(j.Core)...)
	}
	return append(list, sourcesPart(x.Sources), jobsPart(x.Jobs), logPart(x.Log))
}

// sourcesPart is like framesPart, as is jobsPart.
func sourcesPart(list []impl.Source) part {
	same := func(a, b impl.Source) bool {
		return isOneList(a.Queue, b.Queue) && equalSources(impl.Source{Last: a.Last, Arrived: a.Arrived, Dropped: a.Dropped}, impl.Source{Last: b.Last, Arrived: b.Arrived, Dropped: b.Dropped})
	}
	return partBy("Sources", list, same, func(x impl.Source) impl.Source {
		return impl.Source{Last: ^x.Last, Arrived: ^x.Arrived, Queue: []int{1}}
	})
}

func jobsPart(list []impl.Job) part {
	same := func(a, b impl.Job) bool {
		return a.Task == b.Task && a.Arrived == b.Arrived && a.Started == b.Started && a.Phase == b.Phase && a.Left == b.Left &&
			isOneList(a.Latched, b.Latched) && isOneList(a.Outs, b.Outs) && isOneList(a.First, b.First) &&
			isOneList(a.Core.Frames, b.Core.Frames) && isOneList(a.Core.Stack, b.Core.Stack)
	}
	return partBy("Jobs", list, same, func(j impl.Job) impl.Job {
		return impl.Job{Task: ^j.Task, Phase: ^j.Phase, Latched: pinsOn(1), Core: coreOf([]int{1})}
	})
}

func logPart(list []impl.Done) part {
	return partOf("Log", list, func(d impl.Done) impl.Done { return impl.Done{Task: ^d.Task, Finished: ^d.Finished} })
}

// withinPlc copies each slice into the middle of a longer one; the parts are that memory.
func withinPlc(x impl.Plc) (impl.Plc, []part) {
	program, list := withinProgram(x.Program)
	data, allData := withinData(x.Data)
	sources, allSources := within(x.Sources, sourceOf(5, 4))
	jobs, allJobs := within(x.Jobs, jobOf(3, 2, 4, 1, 0, impl.Core{}))
	log, allLog := within(x.Log, impl.Done{Task: 1, Finished: 9})
	x.Program, x.Data, x.Sources, x.Jobs, x.Log = program, data, sources, jobs, log
	list = append(list, partsOf(allData)...)
	for k := range sources {
		source, memory := withinSource(sources[k])
		sources[k] = source
		list = append(list, memory...)
	}
	for i := range jobs {
		j := &jobs[i]
		for _, pins := range []*[]bool{&j.Latched, &j.Outs, &j.First} {
			inside, all := within(*pins, true)
			*pins = inside
			list = append(list, boolsPart("the pins of a job", all))
		}
		core, memory := withinCore(j.Core)
		j.Core = core
		list = append(list, memory...)
	}
	return x, append(list, sourcesPart(allSources), jobsPart(allJobs), logPart(allLog))
}

// withinScript copies a script and each of its elements into the middle of a longer list.
func withinScript(script [][]bool) ([][]bool, []part) {
	inside, all := within(script, pinsOn(6))
	var list []part
	for i := range inside {
		pins, memory := within(inside[i], true)
		inside[i] = pins
		list = append(list, boolsPart("pins", memory))
	}
	return inside, append(list, partBy("script", all, isOneList[bool], func([]bool) []bool { return pinsOn(5) }))
}

// wantPlcApart calls each function twice, with all codes that return the processor, as it is or changed.
func wantPlcApart(t *testing.T, x impl.Plc, pins []bool, script [][]bool) {
	t.Helper()
	inside, arguments := withinPlc(x)
	twice := func(name string, run func() impl.Plc) {
		t.Helper()
		wantApart(t, name, arguments, func() []part { return append(plcParts(run()), plcParts(run())...) })
	}
	twice("StartPlc", func() impl.Plc { y, _ := impl.StartPlc(inside); return y })
	twice("StopPlc", func() impl.Plc { y, _ := impl.StopPlc(inside); return y })
	wantApart(t, "PlcOK and SamePlc", arguments, func() []part {
		impl.PlcOK(inside)
		impl.SamePlc(inside, inside)
		impl.SamePlc(inside, x)
		impl.SamePlc(x, inside)
		return nil
	})
	insidePins, allPins := within(pins, true)
	insideScript, scriptParts := withinScript(script)
	arguments = slices.Concat(arguments, scriptParts, []part{boolsPart("pins", allPins)})
	twice("TickPlc", func() impl.Plc { y, _ := impl.TickPlc(inside, insidePins); return y })
	twice("RunPlc", func() impl.Plc { y, _ := impl.RunPlc(inside, insideScript); return y })
	if len(script) > 0 {
		same := slices.Repeat(insideScript[:1], 9)
		twice("RunPlc of the same pins", func() impl.Plc { y, _ := impl.RunPlc(inside, same); return y })
	}
}

func TestPlcIsApart(t *testing.T) {
	r := rand.New(rand.NewSource(171))
	for i, x := range edgePlcs() {
		// Those that are valid take long, and differ little.
		if i < 8 || i%9 == 0 || !impl.PlcOK(x) {
			wantPlcApart(t, x, pinsOn(0, 2), drawnScript(r, 12))
		}
	}
	for _, x := range []impl.Plc{busyPlc(), idlePlc(), restingPlc(), started(t, impl.DemoProgram())} {
		for _, pins := range edgePins() {
			wantPlcApart(t, x, pins, [][]bool{pinsOn(2), pins})
		}
		for n := range 20 {
			wantPlcApart(t, x, drawnPins(r), drawnScript(r, 3*n))
		}
		x.Now = largestValue
		wantPlcApart(t, x, pinsOn(), scriptOf(3))
	}
	for range 60 {
		wantPlcApart(t, mixedPlc(r), drawnPins(r), drawnScript(r, r.Intn(60)))
	}
	for _, p := range []impl.Program{busyProgram(), easyProgram(), impl.DemoProgram(), fullProgram()} {
		image, _ := impl.ImageText(p)
		wantApart(t, "LoadPlc", nil, func() []part {
			first, _ := impl.LoadPlc(image)
			second, _ := impl.LoadPlc(image)
			return append(plcParts(first), plcParts(second)...)
		})
	}
}

// Processors on the way of one that works: each stays as it was, also where their lists grow.
func TestPlcsInSequence(t *testing.T) {
	r := rand.New(rand.NewSource(172))
	for range 20 {
		x := mixedPlc(r)
		list, before := []impl.Plc{x}, []impl.Plc{copyOfPlc(x)}
		for n := range 60 {
			switch {
			case n%20 == 19:
				x, _ = impl.StopPlc(x)
			case n%20 == 0:
				x, _ = impl.StartPlc(x)
			case n%7 == 0:
				x, _ = impl.RunPlc(x, drawnScript(r, 5))
			default:
				x, _ = impl.TickPlc(x, drawnPins(r))
			}
			list, before = append(list, x), append(before, copyOfPlc(x))
		}
		for i := range list {
			if !equalPlcs(list[i], before[i]) {
				t.Fatal("processor", i, "became", list[i], "and was", before[i])
			}
		}
	}
}

// A processor whose lists are one and the same slice where they can be.
func TestPlcOfSharedLists(t *testing.T) {
	pins := pinsOn(1, 6)
	x := busyPlc()
	x.Program.Safe, x.Data.Latched, x.Data.Pins, x.Data.Outs, x.Data.Wires = pins, pins, pins, pins, pins
	for i := range x.Jobs {
		x.Jobs[i].Latched, x.Jobs[i].Outs, x.Jobs[i].First = pins, pins, pins
	}
	runOf(t, x, scriptOf(3, 1, 6))
	runOf(t, x, slices.Repeat([][]bool{pins}, 200))
	checkStop(t, x)
	if y, code := impl.RunPlc(x, slices.Repeat([][]bool{pins}, 200)); code != 0 || !slices.Equal(pins, pinsOn(1, 6)) {
		t.Error("the pins became", pins, "of", brief(y), code)
	}
	wantApart(t, "StopPlc", nil, func() []part { y, _ := impl.StopPlc(x); return plcParts(y) })
	wantApart(t, "RunPlc", nil, func() []part { y, _ := impl.RunPlc(x, scriptOf(9)); return plcParts(y) })
}

// The same processor in other memory, and nil in place of empty lists, yield the same results.
func TestEqualPlcs(t *testing.T) {
	for _, x := range edgePlcs() {
		inside, _ := withinPlc(x)
		wantSame(t, plcCalls(x), plcCalls(inside))
	}
	for _, script := range edgeScripts() {
		inside, _ := withinScript(script)
		wantSame(t, []call{scriptCall(busyPlc(), script)}, []call{scriptCall(busyPlc(), inside)})
	}
	wantSame(t, []call{scriptCall(busyPlc(), nil), scriptCall(busyPlc(), [][]bool{nil}), tickCall(busyPlc(), nil)},
		[]call{scriptCall(busyPlc(), [][]bool{}), scriptCall(busyPlc(), [][]bool{{}}), tickCall(busyPlc(), []bool{})})
	x := newPlc(programOf(nil, make([]impl.Routine, 1), cyclic(9, 9, 0)))
	x.Mode = 2
	y := changedPlc(x, func(x *impl.Plc) {
		x.Program.Kinds, x.Program.Routines[0].Code, x.Data.Blocks, x.Sources[0].Queue, x.Jobs, x.Log = []int{}, []impl.Instr{}, []impl.Fb{}, []int{}, []impl.Job{}, []impl.Done{}
	})
	x.Sources[0].Queue = nil
	wantSame(t, plcCalls(x), plcCalls(y))
}

// A program whose routines have one and the same code is written like any other, and read with code of their own.
func TestSharedCode(t *testing.T) {
	code := parse("push 4; store 2; cut")
	p := programOf(nil, []impl.Routine{{Code: code}, {Code: code}, {Code: code[:2]}}, cyclic(9, 9, 2))
	checkImage(t, p)
	wantSameProgram(t, p, copyOfProgram(p), true)
	image, _ := impl.ImageText(p)
	q, _ := impl.ReadImage(image)
	wantApart(t, "ReadImage", programParts(p), func() []part { return programParts(q) })
}

func wantRunApart(t *testing.T, list []impl.Routine, d impl.Data) {
	t.Helper()
	for k := range min(len(list)+1, 7) {
		insideData, allData := withinData(d)
		inside, all, memory := withinRoutines(list)
		wantApart(t, "TreeRun", append(partsOf(allData), routineParts(all, memory)...), func() []part {
			y, _, _ := impl.TreeRun(inside, k, insideData, 5)
			return partsOf(y)
		})
		wantApart(t, "FlatRun", append(partsOf(allData), routineParts(all, memory)...), func() []part {
			y, _, _, _ := impl.FlatRun(inside, k, insideData, 5)
			return partsOf(y)
		})
	}
}

func TestRunIsApart(t *testing.T) {
	r := rand.New(rand.NewSource(51))
	for range 300 {
		kinds := randomKinds(r)
		wantRunApart(t, acceptedRoutines(r, kinds, 30), mixedData(r, kinds))
	}
	for _, list := range edgeRoutines() {
		if len(list) <= 7 {
			wantRunApart(t, list, mixedData(r, fullKinds()))
			wantRunApart(t, list, impl.Data{Blocks: []impl.Fb{{}}})
		}
	}
}

func flatsPart(list []impl.Flat) part {
	return partOf("instructions", list, func(x impl.Flat) impl.Flat { return impl.Flat{Op: ^x.Op, A: ^x.A, To: ^x.To} })
}

func TestFlatIsApart(t *testing.T) {
	for _, code := range edgeCode() {
		insideCode, allCode := withinCode(code)
		for _, kinds := range edgeKinds() {
			insideKinds, allKinds := within(kinds, 3)
			arguments := []part{intsPart("kinds", allKinds), codeMemory(allCode)}
			wantApart(t, "FlatOf", arguments, func() []part {
				list, _ := impl.FlatOf(insideCode, insideKinds, 2)
				return []part{flatsPart(list)}
			})
		}
	}
}

// wantStepApart executes a step and a block.
func wantStepApart(t *testing.T, list []impl.Routine, d impl.Data, c impl.Core) {
	t.Helper()
	insideData, allData := withinData(d)
	insideCore, coreMemory := withinCore(c)
	inside, all, memory := withinRoutines(list)
	insideKinds, allKinds := within(kindsOf(d), 3)
	arguments := slices.Concat(partsOf(allData), coreMemory, routineParts(all, memory), []part{intsPart("kinds", allKinds)})
	wantApart(t, "StepCore", arguments, func() []part {
		y, z, _, _ := impl.StepCore(inside, insideData, insideCore, 5)
		return append(partsOf(y), coreParts(z)...)
	})
	wantApart(t, "BlockRun", arguments, func() []part {
		y, z, _, _ := impl.BlockRun(inside, insideData, insideCore, 5)
		return append(partsOf(y), coreParts(z)...)
	})
	wantApart(t, "NewCore", arguments, func() []part {
		z, _ := impl.NewCore(inside, insideKinds, len(inside)-1)
		return coreParts(z)
	})
	wantApart(t, "CoreOK and SameCore", arguments, func() []part {
		impl.CoreOK(inside, insideKinds, insideCore)
		impl.SameCore(insideCore, insideCore)
		impl.SameCore(insideCore, c)
		impl.SameCore(c, insideCore)
		return nil
	})
}

func TestStepIsApart(t *testing.T) {
	r := rand.New(rand.NewSource(52))
	for range 600 {
		kinds := randomKinds(r)
		list := callingRoutines(r, kinds, 30)
		wantStepApart(t, list, mixedData(r, kinds), mixedCore(r, list, kinds))
	}
	// All steps of routines one below the other, in which the numbers of frames, of counters and of elements go up and down.
	list := routinesOf("repeat 2; push 1; store 0; cut; end", "call 0; push 1; call 0; store 1", "repeat 2; repeat 1; call 1; end; end", "push 4; call 2; store 2; call 2")
	for _, p := range placesOf(list, newData(), coreOf(nil, frameAt(3, 0)), 0) {
		wantStepApart(t, list, p.data, p.core)
	}
	list, _ = callers()
	for _, c := range edgeCores() {
		wantStepApart(t, list, newData(1), c)
		wantStepApart(t, list, impl.Data{}, c)
		wantStepApart(t, nil, newData(1), c)
	}
}

// Frames whose counters are one and the same slice, which is that of the stack too.
func TestSharedCounters(t *testing.T) {
	list := routinesOf("push 5; repeat 2; cut; end; store 0", "repeat 2; call 0; end")
	loops := []int{2}
	c := coreOf(loops, frameAt(1, 2, loops...), frameAt(0, 3, loops...))
	_, z, _, code := impl.StepCore(list, newData(), c, 0)
	if want := coreOf([]int{2}, frameAt(1, 2, 2), frameAt(0, 2, 1)); code != 0 || !equalCores(z, want) || loops[0] != 2 {
		t.Error(z, code, loops, "want", want)
	}
	_, z, _, code = impl.BlockRun(list, newData(), c, 0)
	if want := coreOf([]int{2}, frameAt(1, 2, 2), frameAt(0, 3, 1)); code != 0 || !equalCores(z, want) || loops[0] != 2 {
		t.Error(z, code, loops, "want", want)
	}
}

// A state whose lists are one and the same slice has an operation applied to one of them only.
func TestSharedArguments(t *testing.T) {
	pins := make([]bool, 8)
	d := newData(3)
	d.Latched, d.Pins, d.Outs, d.Wires = pins, pins, pins, pins
	for _, v := range []struct {
		text string
		want impl.Data
	}{
		{"out 2", changed(d, func(d *impl.Data) { d.Outs[2] = true })},
		{"poke 2", changed(d, func(d *impl.Data) { d.Outs[2], d.Wires[2] = true, true })},
	} {
		y, _, code := impl.ApplyOp(d, one(v.text), []int{1}, 0)
		if code != 0 || !equalData(y, v.want) || slices.Contains(pins, true) {
			t.Error(v.text, y, code, "want", v.want)
		}
		y, _, code = runBoth(t, routinesOf("flag 1;"+v.text), 0, d, 0)
		if code != 0 || !equalData(y, v.want) || slices.Contains(pins, true) {
			t.Error(v.text, y, code, "want", v.want)
		}
	}
	wantApart(t, "NewData", nil, func() []part {
		d, _ := impl.NewData(fullKinds())
		return partsOf(d)
	})
}

// The same arguments in other memory, and nil in place of empty lists, yield the same results.
func TestEqualStates(t *testing.T) {
	for _, kinds := range edgeKinds() {
		inside, _ := within(kinds, 3)
		wantSame(t, kindsCalls(kinds), kindsCalls(inside))
	}
	for _, d := range edgeDatas() {
		inside, _ := withinData(d)
		wantSame(t, dataCalls(d), dataCalls(inside))
		for _, stack := range edgeStacks() {
			insideStack, _ := within(stack, 1)
			wantSame(t, applyCalls(d, stack), applyCalls(inside, insideStack))
		}
		for _, list := range edgeRoutines()[:12] {
			insideList, _, _ := withinRoutines(list)
			wantSame(t, runCalls(list, d), runCalls(insideList, inside))
		}
	}
	list, _ := callers()
	for _, c := range edgeCores() {
		inside, _ := withinCore(c)
		insideList, _, _ := withinRoutines(list)
		insideKinds, _ := within([]int{1, 2}, 3)
		wantSame(t, coreCalls(list, []int{1, 2}, c), coreCalls(insideList, insideKinds, inside))
		wantSame(t, stepCalls(list, newData(), c), stepCalls(insideList, newData(), inside))
	}
	nothing, empties := coreOf(nil, frameAt(0, 0)), impl.Core{Frames: []impl.Frame{{Loops: []int{}}}, Stack: []int{}}
	wantSame(t, coreCalls(list, nil, nothing), coreCalls(list, []int{}, empties))
	wantSame(t, stepCalls(list, newData(), nothing), stepCalls(list, newData(), empties))
	wantSame(t, coreCalls(nil, nil, impl.Core{}), coreCalls([]impl.Routine{}, []int{}, impl.Core{Frames: []impl.Frame{}, Stack: []int{}}))
	wantSame(t, stepCalls(nil, newData(), impl.Core{}), stepCalls([]impl.Routine{}, newData(), impl.Core{Frames: []impl.Frame{}, Stack: []int{}}))
	full, none := newData(), changed(newData(), func(d *impl.Data) { d.Blocks = []impl.Fb{} })
	wantSame(t, kindsCalls(nil), kindsCalls([]int{}))
	wantSame(t, dataCalls(full), dataCalls(none))
	wantSame(t, applyCalls(full, nil), applyCalls(none, []int{}))
	wantSame(t, runCalls(nil, full), runCalls([]impl.Routine{}, none))
	wantSame(t, runCalls(make([]impl.Routine, 6), full), runCalls(slices.Repeat([]impl.Routine{{Code: []impl.Instr{}}}, 6), none))
	empty := impl.Data{Globals: []int{}, Blocks: []impl.Fb{}, Latched: []bool{}, Pins: []bool{}, Outs: []bool{}, Wires: []bool{}}
	wantSame(t, dataCalls(impl.Data{}), dataCalls(empty))
}

func TestEqualPrograms(t *testing.T) {
	for _, p := range edgePrograms() {
		inside, _ := withinProgram(p)
		wantSame(t, programCalls(p), programCalls(inside))
	}
	p, q := programOf(nil, make([]impl.Routine, 1), cyclic(9, 9, 0)), programOf([]int{}, []impl.Routine{{Code: []impl.Instr{}}}, cyclic(9, 9, 0))
	wantSame(t, programCalls(p), programCalls(q))
	wantSame(t, programCalls(programOf(nil, nil)), programCalls(programOf([]int{}, []impl.Routine{}, []impl.Task{}...)))
	wantSame(t, programCalls(impl.Program{}), programCalls(impl.Program{Kinds: []int{}, Routines: []impl.Routine{}, Tasks: []impl.Task{}, Safe: []bool{}}))
}
