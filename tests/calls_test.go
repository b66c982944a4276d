package tests

import (
	"fmt"
	"math"
	"slices"
	"strings"
	"sync"
	"testing"

	"loop.example/g00684/impl"
)

// A call is a function of the program with its arguments fixed; run returns all results as one text.
type call struct {
	name string
	run  func() string
}

func textCalls(s string) []call {
	list := []call{
		{"NameOK", func() string { return fmt.Sprint(impl.NameOK(s)) }},
		{"CodeOf", func() string { return fmt.Sprint(impl.CodeOf(s)) }},
		{"SumOf", func() string { return fmt.Sprint(impl.SumOf(s)) }},
		{"FrameText", func() string { r, c := impl.FrameText(s); return fmt.Sprint(c, r) }},
		{"ReadFrame", func() string { r, c := impl.ReadFrame(s); return fmt.Sprint(c, r) }},
		{"HexOf", func() string { return impl.HexOf(s) }},
		{"BytesOf", func() string { r, c := impl.BytesOf(s); return fmt.Sprint(c, r) }},
		{"OpOf", func() string { return fmt.Sprint(impl.OpOf(s)) }},
		{"ReadInstr", func() string { return fmt.Sprint(impl.ReadInstr(s)) }},
		{"ReadCode", func() string { return fmt.Sprint(impl.ReadCode(s)) }},
		{"ReadImage", func() string { return fmt.Sprint(impl.ReadImage(s)) }},
		{"LoadPlc", func() string { return fmt.Sprint(impl.LoadPlc(s)) }},
	}
	for _, at := range edgeInts() {
		for _, size := range []int{0, 1, 2, 3, 4, at} {
			list = append(list, call{"TakeNumber", func() string { return fmt.Sprint(impl.TakeNumber(s, at, size)) }})
		}
	}
	return list
}

func numberCalls(n int) []call {
	list := []call{
		{"CodeWord", func() string { return impl.CodeWord(n) }},
		{"OpName", func() string { return impl.OpName(n) }},
		{"CostOf", func() string { return fmt.Sprint(impl.CostOf(n)) }},
		{"NewFb", func() string { return fmt.Sprint(impl.NewFb(n)) }},
		{"TakesOf", func() string { return fmt.Sprint(impl.TakesOf(n)) }},
	}
	for _, cut := range []bool{false, true} {
		list = append(list, call{"OneCost", func() string { return fmt.Sprint(impl.OneCost(n, cut)) }})
	}
	for _, m := range edgeInts() {
		x := impl.Instr{Op: n, A: m}
		a := impl.Summary{Total: n, None: m, Head: n, Tail: m, Inner: n}
		list = append(list, call{"SummaryOK", func() string { return fmt.Sprint(impl.SummaryOK(a)) }})
		f := impl.Fb{Kind: n, On: true, Start: m, Count: m}
		list = append(list, call{"FbOK", func() string { return fmt.Sprint(impl.FbOK(f)) }})
		list = append(list, call{"InstrOK", func() string { return fmt.Sprint(impl.InstrOK(x)) }})
		list = append(list, call{"InstrText", func() string { r, c := impl.InstrText(x); return fmt.Sprint(c, r) }})
		list = append(list, call{"PutNumber", func() string { r, c := impl.PutNumber(n, m); return fmt.Sprint(c, r) }})
		for _, op := range []int{0, 1, 2, 3, n} {
			list = append(list, call{"Checked", func() string { return fmt.Sprint(impl.Checked(op, n, m)) }})
		}
	}
	return list
}

func listCalls(code []impl.Instr) []call {
	list := []call{
		{"CodeText", func() string { r, c := impl.CodeText(code); return fmt.Sprint(c, r) }},
		{"CallsOf", func() string { return fmt.Sprint(impl.CallsOf(code)) }},
	}
	for _, at := range edgeIndices() {
		list = append(list, call{"MatchOf", func() string { return fmt.Sprint(impl.MatchOf(code, at)) }})
	}
	return list
}

func verifyCalls(code []impl.Instr, kinds []int) []call {
	var list []call
	for _, routines := range []int{math.MinInt, -1, 0, 2, 6, 7, math.MaxInt} {
		list = append(list, call{"VerifyCode", func() string { return fmt.Sprint(impl.VerifyCode(code, kinds, routines)) }})
		list = append(list, call{"FlatOf", func() string { return fmt.Sprint(impl.FlatOf(code, kinds, routines)) }})
		for _, at := range edgeIndices() {
			list = append(list, call{"StackAt", func() string { return fmt.Sprint(impl.StackAt(code, kinds, routines, at)) }})
		}
	}
	return list
}

func routineCalls(routines []impl.Routine, kinds []int) []call {
	list := []call{
		{"VerifyAll", func() string { return fmt.Sprint(impl.VerifyAll(routines, kinds)) }},
		{"CostsOf", func() string { return fmt.Sprint(impl.CostsOf(routines, kinds)) }},
	}
	for _, k := range []int{math.MinInt, -1, 0, 1, 2, len(routines) - 1, len(routines), math.MaxInt} {
		list = append(list, call{"NewCore", func() string { return fmt.Sprint(impl.NewCore(routines, kinds, k)) }})
	}
	return list
}

func coreCalls(routines []impl.Routine, kinds []int, c impl.Core) []call {
	return []call{
		{"CoreOK", func() string { return fmt.Sprint(impl.CoreOK(routines, kinds, c)) }},
		{"SameCore", func() string {
			return fmt.Sprint(impl.SameCore(c, c), impl.SameCore(c, impl.Core{}), impl.SameCore(impl.Core{}, c))
		}},
	}
}

func stepCalls(routines []impl.Routine, d impl.Data, c impl.Core) []call {
	var list []call
	for _, now := range edgeTimes() {
		list = append(list, call{"StepCore", func() string { return fmt.Sprint(impl.StepCore(routines, d, c, now)) }})
		list = append(list, call{"BlockRun", func() string { return fmt.Sprint(impl.BlockRun(routines, d, c, now)) }})
	}
	return list
}

func summaryCalls(a impl.Summary) []call {
	list := []call{
		{"SummaryOK", func() string { return fmt.Sprint(impl.SummaryOK(a)) }},
		{"LongestOf", func() string { return fmt.Sprint(impl.LongestOf(a)) }},
		{"JobCost", func() string { return fmt.Sprint(impl.JobCost(a)) }},
	}
	for _, n := range edgeInts() {
		list = append(list, call{"Times", func() string { return fmt.Sprint(impl.Times(a, n)) }})
	}
	for _, b := range edgeSummaries() {
		list = append(list, call{"Behind", func() string { return fmt.Sprint(impl.Behind(a, b)) }})
		list = append(list, call{"Either", func() string { return fmt.Sprint(impl.Either(a, b)) }})
	}
	return list
}

func fbCalls(f impl.Fb) []call {
	list := []call{
		{"FbOK", func() string { return fmt.Sprint(impl.FbOK(f)) }},
		{"ValueOf", func() string { return fmt.Sprint(impl.ValueOf(f)) }},
		{"FbText", func() string { return fmt.Sprint(impl.FbText(f)) }},
	}
	ends := []int{math.MinInt, smallestValue - 1, smallestValue, -1, 0, 1, largestValue, largestValue + 1, math.MaxInt}
	for _, n := range ends {
		for _, now := range ends {
			for _, v := range []struct{ a, b bool }{{false, false}, {false, true}, {true, false}, {true, true}} {
				list = append(list, call{"StepBlock", func() string { return fmt.Sprint(impl.StepBlock(f, v.a, v.b, n, now)) }})
			}
		}
	}
	return list
}

func kindsCalls(kinds []int) []call {
	return []call{{"NewData", func() string { return fmt.Sprint(impl.NewData(kinds)) }}}
}

func dataCalls(d impl.Data) []call {
	return []call{
		{"DataOK", func() string { return fmt.Sprint(impl.DataOK(d)) }},
		{"KindsOf", func() string { return fmt.Sprint(impl.KindsOf(d)) }},
		{"SameData", func() string {
			return fmt.Sprint(impl.SameData(d, d), impl.SameData(d, newData()), impl.SameData(newData(), d))
		}},
	}
}

func applyCalls(d impl.Data, stack []int) []call {
	var list []call
	for _, now := range edgeTimes() {
		for _, x := range edgeInstrs() {
			list = append(list, call{"ApplyOp", func() string { return fmt.Sprint(impl.ApplyOp(d, x, stack, now)) }})
		}
	}
	return list
}

func runCalls(routines []impl.Routine, d impl.Data) []call {
	var list []call
	for _, now := range edgeTimes() {
		for _, k := range []int{math.MinInt, -1, 0, 1, 2, len(routines) - 1, len(routines), math.MaxInt} {
			list = append(list, call{"TreeRun", func() string { return fmt.Sprint(impl.TreeRun(routines, k, d, now)) }})
			list = append(list, call{"FlatRun", func() string { return fmt.Sprint(impl.FlatRun(routines, k, d, now)) }})
		}
	}
	return list
}

func taskCalls(x impl.Task) []call {
	return []call{{"TaskOK", func() string { return fmt.Sprint(impl.TaskOK(x)) }}}
}

func programCalls(p impl.Program) []call {
	return []call{
		{"DemoProgram", func() string { return fmt.Sprint(impl.DemoProgram()) }},
		{"CheckProgram", func() string { return fmt.Sprint(impl.CheckProgram(p)) }},
		{"ImageText", func() string { r, c := impl.ImageText(p); return fmt.Sprint(c, r) }},
		{"BoundsOf", func() string { return fmt.Sprint(impl.BoundsOf(p)) }},
		{"AdmitProgram", func() string { return fmt.Sprint(impl.AdmitProgram(p)) }},
		{"LoadOf", func() string { return fmt.Sprint(impl.LoadOf(p)) }},
		{"SameProgram", func() string {
			return fmt.Sprint(impl.SameProgram(p, p), impl.SameProgram(p, plainProgram()), impl.SameProgram(plainProgram(), p))
		}},
	}
}

func busyCalls(costs, periods []int) []call {
	var list []call
	for _, n := range []int{math.MinInt, -1, 0, 1, 4999, 5000, 5001, math.MaxInt} {
		list = append(list, call{"BusyPeriod", func() string { return fmt.Sprint(impl.BusyPeriod(costs, periods, n)) }})
	}
	return list
}

func sourceCalls(x impl.Source, task impl.Task) []call {
	list := []call{
		{"NewSource", func() string { return fmt.Sprint(impl.NewSource()) }},
		{"SourceOK", func() string { return fmt.Sprint(impl.SourceOK(x, task)) }},
		{"TakeEvent", func() string { return fmt.Sprint(impl.TakeEvent(x, task)) }},
		{"BalanceOf", func() string { return fmt.Sprint(impl.BalanceOf(x, task)) }},
		{"SourceText", func() string { r, c := impl.SourceText(x, task); return fmt.Sprint(c, r) }},
	}
	for _, running := range []bool{false, true} {
		list = append(list, call{"DropEvents", func() string { return fmt.Sprint(impl.DropEvents(x, task, running)) }})
	}
	for _, now := range append(edgeTimes(), 49, 50, 59, 60, 5050) {
		list = append(list, call{"OfferEvent", func() string { return fmt.Sprint(impl.OfferEvent(x, task, now)) }})
	}
	return list
}

func riseCalls(old, now []bool) []call {
	return []call{{"RisesOf", func() string { return fmt.Sprint(impl.RisesOf(old, now)) }}}
}

func plcCalls(x impl.Plc) []call {
	return []call{
		{"PlcOK", func() string { return fmt.Sprint(impl.PlcOK(x)) }},
		{"SamePlc", func() string {
			return fmt.Sprint(impl.SamePlc(x, x), impl.SamePlc(x, busyPlc()), impl.SamePlc(busyPlc(), x))
		}},
		{"StartPlc", func() string { return fmt.Sprint(impl.StartPlc(x)) }},
		{"StopPlc", func() string { return fmt.Sprint(impl.StopPlc(x)) }},
		tickCall(x, pinsOn(0, 2)),
		tickCall(x, nil),
		scriptCall(x, scriptOf(50, 1, 3)),
	}
}

func tickCall(x impl.Plc, pins []bool) call {
	return call{"TickPlc", func() string { return fmt.Sprint(impl.TickPlc(x, pins)) }}
}

func scriptCall(x impl.Plc, script [][]bool) call {
	return call{"RunPlc", func() string { return fmt.Sprint(impl.RunPlc(x, script)) }}
}

// workingCalls holds calls with every processor, and with every list of pins and every script.
func workingCalls() []call {
	var list []call
	for _, x := range edgePlcs() {
		list = append(list, plcCalls(x)...)
	}
	for _, x := range []impl.Plc{{}, busyPlc(), restingPlc(), changedPlc(idlePlc(), func(x *impl.Plc) { x.Now = largestValue - 7 })} {
		for _, pins := range edgePins() {
			list = append(list, tickCall(x, pins))
		}
		for _, script := range edgeScripts() {
			list = append(list, scriptCall(x, script))
		}
	}
	return list
}

// eventCalls holds calls with every source and with every task, and with pins of every length.
func eventCalls() []call {
	var list []call
	for _, x := range edgeSources() {
		for _, task := range append(sourceTasks(), impl.Task{}, queueTask(0), queueTask(5), queueTask(math.MaxInt)) {
			list = append(list, sourceCalls(x, task)...)
		}
	}
	for _, task := range edgeTasks() {
		list = append(list, sourceCalls(sourceOf(50, 50), task)...)
	}
	for _, old := range edgePins() {
		for _, now := range edgePins() {
			list = append(list, riseCalls(old, now)...)
		}
	}
	return list
}

// workCalls holds calls with every list of costs and every list of periods.
func workCalls() []call {
	var list []call
	for _, costs := range edgeWork() {
		for _, periods := range edgeWork() {
			list = append(list, busyCalls(costs, periods)...)
		}
	}
	return list
}

// imageCalls holds calls with every task and with every program.
func imageCalls() []call {
	var list []call
	for _, x := range edgeTasks() {
		list = append(list, taskCalls(x)...)
	}
	for _, p := range edgePrograms() {
		list = append(list, programCalls(p)...)
	}
	return list
}

// stateCalls holds calls with every state.
func stateCalls() []call {
	var list []call
	for _, d := range edgeDatas() {
		list = append(list, dataCalls(d)...)
		for _, stack := range edgeStacks() {
			list = append(list, applyCalls(d, stack)...)
		}
	}
	for i, routines := range edgeRoutines() {
		for k, d := range edgeDatas() {
			// Every list with the first state, and with others in turn.
			if k == 0 || (i+k)%8 == 0 {
				list = append(list, runCalls(routines, d)...)
			}
		}
	}
	return list
}

// moveCalls holds calls with every core.
func moveCalls() []call {
	var list []call
	routines, _ := callers()
	for _, c := range edgeCores() {
		for _, kinds := range edgeKinds() {
			list = append(list, coreCalls(routines, kinds, c)...)
		}
		for _, d := range edgeDatas() {
			list = append(list, stepCalls(routines, d, c)...)
		}
		for _, other := range edgeRoutines() {
			list = append(list, coreCalls(other, nil, c)...)
			list = append(list, stepCalls(other, newData(), c)...)
		}
	}
	return list
}

func allCalls() []call {
	var list []call
	for _, s := range edgeTexts() {
		list = append(list, textCalls(s)...)
	}
	for _, n := range edgeInts() {
		list = append(list, numberCalls(n)...)
	}
	for _, code := range edgeCode() {
		list = append(list, listCalls(code)...)
	}
	for _, f := range edgeFbs() {
		list = append(list, fbCalls(f)...)
	}
	for _, a := range edgeSummaries() {
		list = append(list, summaryCalls(a)...)
	}
	for _, kinds := range edgeKinds() {
		list = append(list, kindsCalls(kinds)...)
		for _, code := range edgeCode() {
			list = append(list, verifyCalls(code, kinds)...)
		}
		for _, routines := range edgeRoutines() {
			list = append(list, routineCalls(routines, kinds)...)
		}
	}
	return slices.Concat(list, stateCalls(), moveCalls(), imageCalls(), workCalls(), eventCalls(), workingCalls())
}

func safely(t *testing.T, c call) string {
	defer func() {
		if r := recover(); r != nil {
			t.Error(c.name, "panics:", r)
		}
	}()
	return c.run()
}

// The order of the calls differs from round to round, so a call that depended on an earlier one would show.
func TestCallsAreRepeatable(t *testing.T) {
	list := allCalls()
	first := make([]string, len(list))
	for i, c := range list {
		first[i] = safely(t, c)
	}
	for i, c := range slices.Backward(list) {
		if got := safely(t, c); got != first[i] {
			t.Errorf("%s returns %q, then %q", c.name, short(first[i]), short(got))
		}
	}
}

func TestCallsDoNotShareState(t *testing.T) {
	list := allCalls()
	var group sync.WaitGroup
	results := make([][]string, 4)
	for k := range results {
		group.Go(func() {
			for _, c := range list {
				results[k] = append(results[k], safely(t, c))
			}
		})
	}
	group.Wait()
	for k := range results {
		if !slices.Equal(results[0], results[k]) {
			t.Error("results differ from goroutine to goroutine")
		}
	}
}

func TestArgumentsStayUnchanged(t *testing.T) {
	for _, s := range edgeTexts() {
		before := strings.Clone(s)
		for _, c := range textCalls(s) {
			safely(t, c)
		}
		if s != before {
			t.Errorf("the argument %q was changed", short(before))
		}
	}
}

// within copies the list into the middle of a longer one; the second result is all of that memory.
func within[E any](list []E, other E) ([]E, []E) {
	all := slices.Repeat([]E{other}, len(list)+100)
	copy(all[3:], list)
	return all[3 : 3+len(list)], all
}

func withinCode(code []impl.Instr) ([]impl.Instr, []impl.Instr) {
	return within(code, impl.Instr{Op: impl.OpPoke, A: 6})
}

// The elements before the slice and those in its unused capacity stay as they are too.
func TestListsStayUnchanged(t *testing.T) {
	for _, code := range edgeCode() {
		inside, all := withinCode(code)
		before := slices.Clone(all)
		for _, c := range listCalls(inside) {
			safely(t, c)
			if !slices.Equal(all, before) {
				t.Errorf("%s changed its argument of %d instructions or the memory around it", c.name, len(code))
			}
		}
	}
}

func TestCodeAndKindsStayUnchanged(t *testing.T) {
	for _, code := range edgeCode() {
		insideCode, allCode := withinCode(code)
		beforeCode := slices.Clone(allCode)
		for _, kinds := range edgeKinds() {
			insideKinds, allKinds := within(kinds, 4)
			beforeKinds := slices.Clone(allKinds)
			for _, c := range verifyCalls(insideCode, insideKinds) {
				safely(t, c)
			}
			if !slices.Equal(allCode, beforeCode) || !slices.Equal(allKinds, beforeKinds) {
				t.Errorf("%d instructions or %d kinds were changed, or the memory around them", len(code), len(kinds))
			}
		}
	}
}

// withinRoutines copies a list with its code; the second result is the memory of the list, the third that of each code.
func withinRoutines(list []impl.Routine) ([]impl.Routine, []impl.Routine, [][]impl.Instr) {
	inside, all := within(list, impl.Routine{Code: parse("cut; end")})
	memory := make([][]impl.Instr, len(inside))
	for k := range inside {
		inside[k].Code, memory[k] = withinCode(inside[k].Code)
	}
	return inside, all, memory
}

func sameRoutines(a, b []impl.Routine) bool {
	return slices.EqualFunc(a, b, func(x, y impl.Routine) bool { return slices.Equal(x.Code, y.Code) })
}

func TestRoutinesStayUnchanged(t *testing.T) {
	for _, list := range edgeRoutines() {
		inside, all, memory := withinRoutines(list)
		beforeAll := slices.Clone(all)
		beforeMemory := make([][]impl.Instr, len(memory))
		for k := range memory {
			beforeMemory[k] = slices.Clone(memory[k])
		}
		for _, kinds := range edgeKinds() {
			for _, c := range routineCalls(inside, kinds) {
				safely(t, c)
			}
		}
		if !sameRoutines(all, beforeAll) || !slices.EqualFunc(memory, beforeMemory, slices.Equal[[]impl.Instr]) {
			t.Errorf("a list of %d routines was changed, or the memory around it or its code", len(list))
		}
	}
}

func wantUnchanged[E comparable](t *testing.T, values func() []E, calls func(E) []call) {
	t.Helper()
	list := values()
	for i, before := range values() {
		for _, c := range calls(list[i]) {
			safely(t, c)
		}
		if list[i] != before {
			t.Errorf("the argument %v became %v", before, list[i])
		}
	}
}

// Blocks, summaries and tasks are passed by value, so this can fail only if they come to hold memory that is shared.
func TestValuesStayUnchanged(t *testing.T) {
	wantUnchanged(t, edgeFbs, fbCalls)
	wantUnchanged(t, edgeSummaries, summaryCalls)
	wantUnchanged(t, edgeTasks, taskCalls)
}

// wantSame expects equal results from two lists of the same calls.
func wantSame(t *testing.T, a, b []call) {
	t.Helper()
	for i := range a {
		if x, y := safely(t, a[i]), safely(t, b[i]); x != y {
			t.Errorf("%s returns %q and %q for equal arguments", a[i].name, short(x), short(y))
		}
	}
}

func TestEqualLists(t *testing.T) {
	for _, code := range edgeCode() {
		inside, _ := withinCode(code)
		wantSame(t, listCalls(slices.Clip(code)), listCalls(inside))
		for _, kinds := range edgeKinds() {
			insideKinds, _ := within(kinds, 5)
			wantSame(t, verifyCalls(slices.Clip(code), slices.Clip(kinds)), verifyCalls(inside, insideKinds))
		}
	}
	for _, list := range edgeRoutines() {
		inside, _, _ := withinRoutines(list)
		for _, kinds := range edgeKinds() {
			wantSame(t, routineCalls(slices.Clip(list), kinds), routineCalls(inside, slices.Clone(kinds)))
		}
	}
}

// An empty slice and nil are the same argument.
func TestEmptyLists(t *testing.T) {
	wantSame(t, listCalls(nil), listCalls([]impl.Instr{}))
	for _, code := range edgeCode() {
		wantSame(t, verifyCalls(code, nil), verifyCalls(code, []int{}))
	}
	for _, kinds := range edgeKinds() {
		wantSame(t, verifyCalls(nil, kinds), verifyCalls([]impl.Instr{}, kinds))
		wantSame(t, routineCalls(nil, kinds), routineCalls([]impl.Routine{}, kinds))
		wantSame(t, routineCalls(make([]impl.Routine, 6), kinds), routineCalls(slices.Repeat([]impl.Routine{{Code: []impl.Instr{}}}, 6), kinds))
	}
}

// Equal arguments in different memory, with other bytes around them, yield equal results.
func TestEqualArguments(t *testing.T) {
	for _, s := range edgeTexts() {
		inside := ("<" + s + ">")[1 : 1+len(s)]
		a, b := textCalls(s), textCalls(inside)
		for i := range a {
			if x, y := safely(t, a[i]), safely(t, b[i]); x != y {
				t.Errorf("%s of %q returns %q and %q", a[i].name, short(s), short(x), short(y))
			}
		}
	}
}
