package tests

import (
	"math/rand"
	"runtime"
	"slices"
	"testing"
	"testing/synctest"
	"time"

	"loop.example/g00684/impl"
)

// runOf returns the processor behind a script, which is as the reference has it.
func runOf(t *testing.T, x impl.Plc, script [][]bool) impl.Plc {
	t.Helper()
	want := x
	for _, pins := range script {
		want = tickByRule(want, pins)
	}
	y, code := impl.RunPlc(x, script)
	if code != 0 || !equalPlcs(y, want) || !impl.PlcOK(y) {
		t.Fatalf("RunPlc(%s, %d ticks) = %v, %d, want %v", brief(x), len(script), y, code, want)
	}
	return y
}

func wantNoScript(t *testing.T, x impl.Plc, script [][]bool, want impl.Plc, wantCode int) {
	t.Helper()
	if y, code := impl.RunPlc(x, script); code != wantCode || !equalPlcs(y, want) {
		t.Errorf("RunPlc(%s, %d ticks) = %s, %d, want %s, %d", brief(x), len(script), brief(y), code, brief(want), wantCode)
	}
}

func drawnPins(r *rand.Rand) []bool {
	return pinsByBits(r.Intn(256))
}

func drawnScript(r *rand.Rand, n int) [][]bool {
	script := make([][]bool, n)
	for i := range script {
		script[i] = drawnPins(r)
	}
	return script
}

func TestRunPlcOfNothing(t *testing.T) {
	for _, x := range []impl.Plc{busyPlc(), idlePlc(), restingPlc(), started(t, impl.DemoProgram()), changedPlc(busyPlc(), func(x *impl.Plc) { x.Now = largestValue }), changedPlc(restingPlc(), func(x *impl.Plc) { x.Now = largestValue })} {
		for _, script := range [][][]bool{nil, {}} {
			wantNoScript(t, x, script, x, impl.OK)
		}
	}
}

func TestRunPlc(t *testing.T) {
	r := rand.New(rand.NewSource(151))
	for _, x := range []impl.Plc{busyPlc(), idlePlc(), restingPlc(), started(t, impl.DemoProgram()), loaded(t, impl.DemoProgram()), started(t, easyProgram())} {
		for n := range 60 {
			runOf(t, x, drawnScript(r, n))
		}
		runOf(t, x, drawnScript(r, 1000))
	}
	x := started(t, impl.DemoProgram())
	if y := runOf(t, x, drawnScript(r, longestList)); y.Now != longestList || len(y.Log) != 40 {
		t.Error("RunPlc of the longest script leaves", brief(y))
	}
}

// ErrLong, ErrBad, ErrSize and ErrFull, each before the later ones.
func TestRunPlcErrors(t *testing.T) {
	for _, base := range []func() impl.Plc{busyPlc, idlePlc, restingPlc} {
		last := changedPlc(base(), func(x *impl.Plc) { x.Now = largestValue })
		wrong := changedPlc(last, func(x *impl.Plc) { x.Mode = 0 })
		for _, n := range []int{longestList + 1, longestList + 2, 20000} {
			for _, x := range []impl.Plc{base(), last, wrong} {
				wantNoScript(t, x, make([][]bool, n), impl.Plc{}, impl.ErrLong)
				wantNoScript(t, x, scriptOf(n), impl.Plc{}, impl.ErrLong)
			}
		}
		for _, script := range [][][]bool{nil, scriptOf(1), scriptOf(longestList), {nil}, make([][]bool, longestList)} {
			wantNoScript(t, wrong, script, impl.Plc{}, impl.ErrBad)
		}
		for _, size := range []int{0, 1, 7, 9, 16, 256, 264, longestList, longestList + 1} {
			for _, at := range []int{0, 1, 5, 9} {
				script := scriptOf(10, 1)
				script[at] = make([]bool, size)
				wantNoScript(t, base(), script, base(), impl.ErrSize)
				wantNoScript(t, last, script, last, impl.ErrSize)
				wantNoScript(t, wrong, script, impl.Plc{}, impl.ErrBad)
			}
			wantNoScript(t, base(), [][]bool{make([]bool, size)}, base(), impl.ErrSize)
		}
		for _, at := range []int{0, 2000, longestList - 1} {
			script := scriptOf(longestList)
			script[at] = nil
			wantNoScript(t, base(), script, base(), impl.ErrSize)
		}
		wantNoScript(t, base(), make([][]bool, longestList), base(), impl.ErrSize)
	}
}

// As many ticks as there is time for, and one more.
func TestRunPlcAtItsEnd(t *testing.T) {
	for _, base := range []func() impl.Plc{busyPlc, idlePlc, restingPlc} {
		for _, n := range []int{1, 2, 3, 50, longestList - 1, longestList} {
			x := changedPlc(base(), func(x *impl.Plc) { x.Now = largestValue - n + 1 })
			wantNoScript(t, x, scriptOf(n), x, impl.ErrFull)
			wantNoScript(t, x, scriptOf(longestList), x, impl.ErrFull)
			if y := runOf(t, x, scriptOf(n-1)); y.Now != largestValue {
				t.Error("Now is", y.Now)
			}
			x.Now--
			if y := runOf(t, x, scriptOf(n)); y.Now != largestValue {
				t.Error("Now is", y.Now)
			}
		}
	}
}

// P12: a script in two parts, divided in each place, and tick by tick, equals the script at once.
func TestRunPlcInParts(t *testing.T) {
	r := rand.New(rand.NewSource(152))
	for _, x := range []impl.Plc{busyPlc(), restingPlc(), started(t, impl.DemoProgram()), started(t, easyProgram()), started(t, threeTasks())} {
		script := drawnScript(r, 120)
		whole, code := impl.RunPlc(x, script)
		if code != 0 {
			t.Fatal("RunPlc", code)
		}
		for n := range 121 {
			first, a := impl.RunPlc(x, script[:n])
			second, b := impl.RunPlc(first, script[n:])
			if a+b != 0 || !equalPlcs(second, whole) || !impl.SamePlc(second, whole) {
				t.Fatalf("in parts of %d and %d ticks: %v, want %v", n, 120-n, second, whole)
			}
		}
		y := x
		for _, pins := range script {
			y, _ = impl.TickPlc(y, pins)
		}
		if !equalPlcs(y, whole) {
			t.Errorf("tick by tick: %v, want %v", y, whole)
		}
	}
}

// goroutinesBack waits for goroutines that have done their work but are counted still; it reports whether there are no more than before.
func goroutinesBack(before int) bool {
	for range 200 {
		if runtime.NumGoroutine() <= before {
			return true
		}
		time.Sleep(time.Millisecond)
	}
	return false
}

// goroutineCalls calls the functions with all their codes, with jobs on their way before and behind the call.
func goroutineCalls(t *testing.T, r *rand.Rand) {
	t.Helper()
	x := busyPlc()
	for range 20 {
		impl.TickPlc(x, drawnPins(r))
		impl.TickPlc(x, nil)
		y, code := impl.RunPlc(x, drawnScript(r, 50+r.Intn(50)))
		if code != 0 || len(y.Jobs)+len(y.Log) == 0 {
			t.Error("RunPlc", code, brief(y))
		}
		impl.RunPlc(x, [][]bool{pinsOn(), nil})
		impl.RunPlc(changedPlc(x, func(x *impl.Plc) { x.Now = largestValue }), scriptOf(5))
		impl.RunPlc(changedPlc(x, func(x *impl.Plc) { x.Mode = 3 }), scriptOf(5))
		y, _ = impl.StopPlc(y)
		y, _ = impl.RunPlc(y, scriptOf(9))
		y, _ = impl.StartPlc(y)
		x, _ = impl.RunPlc(busyPlc(), scriptOf(r.Intn(100)))
	}
}

func TestNoGoroutineIsLeft(t *testing.T) {
	r := rand.New(rand.NewSource(153))
	before := runtime.NumGoroutine()
	goroutineCalls(t, r)
	if !goroutinesBack(before) {
		t.Error("there were", before, "goroutines, and there are", runtime.NumGoroutine())
	}
	// A bubble ends only if no goroutine of it waits for anything.
	synctest.Test(t, func(t *testing.T) { goroutineCalls(t, r) })
}

// Nothing changes behind the end of a call.
func TestResultsStay(t *testing.T) {
	r := rand.New(rand.NewSource(154))
	var list, before []impl.Plc
	for range 200 {
		y, _ := impl.RunPlc(busyPlc(), drawnScript(r, r.Intn(60)))
		list, before = append(list, y), append(before, copyOfPlc(y))
	}
	runtime.Gosched()
	if !slices.EqualFunc(list, before, equalPlcs) {
		t.Error("a processor changed behind the end of its call")
	}
}
