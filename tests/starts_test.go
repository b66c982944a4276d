package tests

import (
	"slices"
	"testing"

	"loop.example/g00684/impl"
)

// startByRule is the reference for StartPlc; it takes a valid processor.
func startByRule(x impl.Plc) (impl.Plc, int) {
	y := copyOfPlc(x)
	if x.Mode == 2 {
		return y, impl.ErrRunning
	}
	y.Mode, y.Since = 2, x.Now
	for k := range y.Sources {
		y.Sources[k].Last = -1
	}
	return y, impl.OK
}

// stopByRule is the reference for StopPlc; it takes a valid processor.
func stopByRule(x impl.Plc) (impl.Plc, int) {
	y := copyOfPlc(x)
	if x.Mode == 1 {
		return y, impl.ErrStopped
	}
	for _, j := range x.Jobs {
		y.Sources[j.Task].Dropped = oneMore(y.Sources[j.Task].Dropped)
	}
	for k, s := range x.Sources {
		for range s.Queue {
			y.Sources[k].Dropped = oneMore(y.Sources[k].Dropped)
		}
		y.Sources[k].Queue = nil
	}
	y.Mode, y.Busy, y.Jobs, y.Data.Wires = 1, false, nil, slices.Clone(x.Program.Safe)
	return y, impl.OK
}

func wantStart(t *testing.T, x, want impl.Plc, wantCode int) {
	t.Helper()
	y, code := impl.StartPlc(x)
	if code != wantCode || !equalPlcs(y, want) || !impl.PlcOK(y) {
		t.Errorf("StartPlc(%v) = %v, %d, want %v, %d", x, y, code, want, wantCode)
	}
}

func wantStop(t *testing.T, x, want impl.Plc, wantCode int) {
	t.Helper()
	y, code := impl.StopPlc(x)
	if code != wantCode || !equalPlcs(y, want) || !impl.PlcOK(y) {
		t.Errorf("StopPlc(%v) = %v, %d, want %v, %d", x, y, code, want, wantCode)
	}
}

func checkStart(t *testing.T, x impl.Plc) {
	t.Helper()
	want, code := startByRule(x)
	wantStart(t, x, want, code)
}

func checkStop(t *testing.T, x impl.Plc) {
	t.Helper()
	want, code := stopByRule(x)
	wantStop(t, x, want, code)
}

// started is a processor that was just loaded and started.
func started(t *testing.T, p impl.Program) impl.Plc {
	t.Helper()
	x, code := impl.StartPlc(loaded(t, p))
	if code != 0 {
		t.Fatal("StartPlc", code)
	}
	return x
}

func TestStartPlc(t *testing.T) {
	wantStart(t, restingPlc(), changedPlc(restingPlc(), func(x *impl.Plc) {
		x.Mode, x.Since = 2, 1000
		for k := range x.Sources {
			x.Sources[k].Last = -1
		}
	}), impl.OK)
	// The time of the start, from the first to the last.
	for _, now := range []int{990, 991, 5000, 1 << 20, largestValue - 1, largestValue} {
		x := changedPlc(restingPlc(), func(x *impl.Plc) { x.Now = now })
		y, code := impl.StartPlc(x)
		if code != 0 || y.Since != now || y.Now != now || y.Mode != impl.MdRun {
			t.Error("StartPlc at", now, "has", y.Since, y.Now, y.Mode, code)
		}
		checkStart(t, x)
	}
	// Everything else stays: the pins, the outputs, the counters of the sources, the log.
	x := started(t, impl.DemoProgram())
	if want := changedPlc(newPlc(impl.DemoProgram()), func(x *impl.Plc) { x.Mode = 2 }); !equalPlcs(x, want) {
		t.Error("StartPlc", x, "want", want)
	}
}

func TestStartPlcWhileRunning(t *testing.T) {
	for _, x := range []impl.Plc{busyPlc(), idlePlc(), started(t, impl.DemoProgram())} {
		wantStart(t, x, x, impl.ErrRunning)
		wantStart(t, x, copyOfPlc(x), impl.ErrRunning)
	}
}

func TestStopPlc(t *testing.T) {
	// A source has dropped 5 before; the job of a task counts once more.
	wantStop(t, busyPlc(), changedPlc(busyPlc(), func(x *impl.Plc) {
		x.Mode, x.Busy, x.Jobs = 1, false, nil
		x.Data.Wires = pinsOn(1, 6)
		for k, n := range []int{5 + 2 + 1, 5 + 1 + 1, 5 + 0 + 1, 5 + 1 + 0, 5 + 0 + 1} {
			x.Sources[k].Dropped, x.Sources[k].Queue = n, nil
		}
	}), impl.OK)
	wantStop(t, idlePlc(), restingPlc(), impl.OK)
	for bits := range 256 {
		x := changedPlc(busyPlc(), func(x *impl.Plc) { x.Program.Safe = pinsByBits(bits) })
		if y, code := impl.StopPlc(x); code != 0 || !slices.Equal(y.Data.Wires, pinsByBits(bits)) || !slices.Equal(y.Program.Safe, pinsByBits(bits)) {
			t.Error("StopPlc with the safe outputs", bits, "has", y.Data.Wires, code)
		}
		y, code := impl.StopPlc(changedPlc(busyPlc(), func(x *impl.Plc) { x.Data.Wires = pinsByBits(bits) }))
		if code != 0 || !slices.Equal(y.Data.Wires, pinsOn(1, 6)) {
			t.Error("StopPlc with the outputs", bits, "has", y.Data.Wires, code)
		}
	}
}

func TestStopPlcWhileStopped(t *testing.T) {
	for _, x := range []impl.Plc{restingPlc(), loaded(t, impl.DemoProgram()), newPlc(easyProgram())} {
		wantStop(t, x, x, impl.ErrStopped)
		wantStop(t, x, copyOfPlc(x), impl.ErrStopped)
	}
}

// Each set of jobs, and each number of pending releases of a task with a job and without one.
func TestStopPlcDrops(t *testing.T) {
	for bits := range 32 {
		x := idlePlc()
		for task := 4; task >= 0; task-- {
			if bits>>task&1 > 0 {
				x.Jobs = append(x.Jobs, jobOf(task, 5, 6, 3, 0, impl.Core{}))
			}
		}
		for n := range 3 {
			x.Sources[0].Queue = rising(n, 100)
			y, code := impl.StopPlc(x)
			for k, s := range y.Sources {
				want := 5 + bits>>k&1
				if k == 0 {
					want += n
				}
				if code != 0 || s.Dropped != want || len(s.Queue) > 0 || s.Arrived != 99 || s.Done != 31 || s.Throttled != 17 || s.Lost != 11 {
					t.Errorf("with jobs %05b and %d pending releases source %d becomes %v", bits, n, k, s)
				}
			}
			checkStop(t, x)
		}
	}
	for k := range 4 {
		x := busyPlc()
		x.Sources[0].Dropped = largestValue - k
		if y, code := impl.StopPlc(x); code != 0 || y.Sources[0].Dropped != largestValue-max(k-3, 0) {
			t.Error("StopPlc with", x.Sources[0], "has", y.Sources[0], code)
		}
		checkStop(t, x)
	}
}

// Stops and starts one after another, in the middle of a job and between jobs.
func TestStopsAndStarts(t *testing.T) {
	p := programOf(nil, routinesOf("flag 1; poke 0; load 0; push 1; add; store 0; cut; flag 1; out 1; push 9; store 1"), event(20, 19, 3, 1, 0))
	p.Safe[4] = true
	x := started(t, p)
	for n := range 15 {
		for round := range 4 {
			// The job starts at the tick of the edge and takes 14 ticks.
			start := x.Now
			x = runOf(t, x, scriptOf(1, 3))
			x = runOf(t, x, scriptOf(n))
			busy := n+1 < 14
			s := x.Sources[0]
			if (len(x.Jobs) == 1) != busy || len(x.Log) == 0 && !busy {
				t.Fatalf("%d ticks behind the edge there are the jobs %v", n+1, x.Jobs)
			}
			y, code := impl.StopPlc(x)
			if code != 0 || y.Sources[0].Dropped != s.Dropped+asBit(busy) || y.Sources[0].Done != s.Done || !slices.Equal(y.Data.Wires, p.Safe) || y.Since > start {
				t.Fatalf("stopped after %d ticks: %v, %d", n+1, y, code)
			}
			// What the job did before stays done.
			if y.Data.Globals[0] != x.Data.Globals[0] || n >= 7 && y.Data.Globals[0] == 0 {
				t.Errorf("stopped after %d ticks: %v", n+1, y.Data)
			}
			checkStop(t, x)
			wantStop(t, y, y, impl.ErrStopped)
			// Some ticks pass, in which an edge at the pin is no release.
			y = tickOf(t, y, pinsOn())
			for range round {
				y = tickOf(t, y, pinsOn(3))
				y = tickOf(t, y, pinsOn())
			}
			z, code := impl.StartPlc(y)
			if code != 0 || z.Since != y.Now || z.Sources[0].Last != -1 || z.Sources[0].Arrived != s.Arrived || len(z.Jobs) > 0 {
				t.Fatalf("started again: %v, %d", z, code)
			}
			wantStart(t, z, z, impl.ErrRunning)
			// The period counts anew, so that an edge at once is no edge too early.
			x = z
		}
	}
	if s := x.Sources[0]; s.Arrived != 60 || s.Throttled+s.Lost != 0 || s.Done+s.Dropped != 60 || s.Done != 4*2 {
		t.Error("the source is", s)
	}
	// Twice without a tick in between
	y, _ := impl.StopPlc(x)
	z, _ := impl.StartPlc(y)
	y, code := impl.StopPlc(z)
	if code != 0 || !slices.Equal(y.Data.Wires, p.Safe) || y.Since != x.Now {
		t.Error("StopPlc", y, code)
	}
}

// A start begins the periods of cyclic tasks: the first release is at its own tick.
func TestStartsOfCyclicTasks(t *testing.T) {
	x := loaded(t, programOf(nil, make([]impl.Routine, 1), cyclic(5, 5, 0)))
	for n := range 12 {
		for range n {
			x = tickOf(t, x, pinsOn())
		}
		y, _ := impl.StartPlc(x)
		before, first := y.Sources[0].Arrived, y.Now
		for range n {
			y = tickOf(t, y, pinsOn())
			if got := y.Sources[0].Arrived - before; got != (y.Now-1-first)/5+1 {
				t.Fatalf("started at %d there are %d releases before %d", first, got, y.Now)
			}
		}
		x, _ = impl.StopPlc(y)
	}
}
