package tests

import (
	"fmt"
	"slices"
	"strings"
	"testing"

	"loop.example/g00684/impl"
)

// A job that has only been started latches the pins of the tick and the outputs, whatever it had before.
func TestLatchPhase(t *testing.T) {
	for bits := range 256 {
		x := idlePlc()
		x.Data.Wires = pinsByBits(255 - bits)
		x.Jobs = []impl.Job{jobOf(1, 5, 6, 1, 0, coreOf(nil, frameAt(0, 0)))}
		y := tickOf(t, x, pinsByBits(bits))
		want := impl.Job{Task: 1, Arrived: 5, Started: 6, Phase: 2, Core: coreOf(nil, frameAt(0, 0)), Latched: pinsByBits(bits), Outs: pinsByBits(255 - bits), First: pinsByBits(255 - bits)}
		if len(y.Jobs) != 1 || !equalJobs(y.Jobs[0], want) || !y.Busy || !slices.Equal(y.Data.Wires, pinsByBits(255-bits)) {
			t.Errorf("with the pins %d the job becomes %v", bits, y.Jobs)
		}
		// Latched and Outs of the data belong to no job.
		if !slices.Equal(y.Data.Latched, x.Data.Latched) || !slices.Equal(y.Data.Outs, x.Data.Outs) {
			t.Error("the data becomes", y.Data)
		}
		// Without instructions the phase after that is PhFlush.
		x.Jobs = []impl.Job{jobOf(3, 5, 6, 1, 0, impl.Core{})}
		y = tickOf(t, x, pinsByBits(bits))
		want.Task, want.Phase, want.Core = 3, 3, impl.Core{}
		if len(y.Jobs) != 1 || !equalJobs(y.Jobs[0], want) || !y.Busy {
			t.Errorf("with the pins %d the job without instructions becomes %v", bits, y.Jobs)
		}
	}
}

// in reads what was latched, and peek what is there, also while the pins change with every tick.
func TestLatchedPins(t *testing.T) {
	b := benchOf(t, oneRoutine("in 0; in 1; peek 0; peek 1; out 3; out 2; out 1; out 0", event(50, 50, 7, 1, 0)))
	b.pass(1, 7, 1)
	b.pass(3, 0)
	b.pass(1, 1)
	b.pass(1)
	b.pass(4, 0)
	b.ticks(nil, "0:flush busy", "")
	// What was latched at 0 is only true for pin 1. peek 0 begins at 3 and peek 1 at 5.
	b.wantWires(1, 2)
}

// A routine without instructions takes two ticks, one of each phase.
func TestEmptyRoutines(t *testing.T) {
	b := benchOf(t, programOf(nil, make([]impl.Routine, 1), event(2, 2, 0, 1, 0)))
	b.ticks([]int{0}, "0:flush busy", "", "")
	b.wantLast(0, 0, 0, 2)
	b.ticks(nil, "")
	b.ticks([]int{0}, "0:flush busy")
	b.ticks(nil, "")
	b.wantLast(0, 4, 4, 6)
	// Also one that is called, and one of which the call is the last instruction.
	b = benchOf(t, programOf(nil, routinesOf("", "call 0"), event(50, 50, 0, 1, 1)))
	b.ticks([]int{0}, "0:code busy", "0:code/1 busy", "0:flush busy", "")
	b.wantLast(0, 0, 0, 4)
	b = benchOf(t, programOf(nil, routinesOf("", "call 0; cut; call 0; cut"), event(50, 50, 0, 1, 1)))
	b.ticks([]int{0}, "0:code busy", "0:code/1 busy", "0:code busy", "0:code", "0:code/1 busy", "0:code busy", "0:flush", "")
}

// Every operation: the state behind each of its ticks. Its effect takes place at the first of them.
func TestTicksOfInstructions(t *testing.T) {
	for _, row := range applicable() {
		for _, last := range []bool{false, true} {
			code := slices.Concat(pushing(row.takes), []impl.Instr{row.x}, popping(row.gives), parse("cut"))
			if last {
				code = slices.Concat(pushing(row.takes), []impl.Instr{row.x})
				if row.gives != "" {
					continue
				}
			}
			p := programOf(allKinds(), []impl.Routine{{Code: code}}, event(90, 90, 0, 1, 0))
			b := benchOf(t, p)
			b.pass(1+len(row.takes), 0)
			n := ticksOf(row.x.Op)
			for k := 1; k <= n; k++ {
				before := b.plc
				b.tick(0)
				want := "0:code busy"
				switch {
				case row.x.Op == 25 && last:
					want = "0:flush"
				case row.x.Op == 25:
					want = "0:code"
				case k < n:
					want = fmt.Sprintf("0:code/%d busy", n-k)
				case last:
					want = "0:flush busy"
				}
				if got := stateOf(b.plc); got != want {
					t.Errorf("behind tick %d of %v the state is %q, want %q", k, row.x, got, want)
				}
				if j, i := b.plc.Jobs[0], before.Jobs[0]; k > 1 && (!equalCores(i.Core, j.Core) || !slices.Equal(i.Outs, j.Outs) || !equalData(before.Data, b.plc.Data)) {
					t.Errorf("tick %d of %v changes %v to %v", k, row.x, i, j)
				}
			}
		}
	}
}

// The state behind every tick of routines whose instructions take more than one.
func TestTicksOfRoutines(t *testing.T) {
	for _, v := range []struct{ text, states string }{
		{"push 6; push 2; div; store 0", "code busy,code busy,code busy,code/3 busy,code/2 busy,code/1 busy,code busy,flush busy,"},
		{"flag 1; poke 0", "code busy,code busy,code/1 busy,flush busy,"},
		{"flag 1; push 4; block 0; out 0", "code busy,code busy,code busy,code/2 busy,code/1 busy,code busy,flush busy,"},
		{"load 0; load 1; mul; store 0; cut", "code busy,code busy,code busy,code/1 busy,code busy,code busy,flush,"},
		{"flag 0; push 1; push 2; sel; store 0", "code busy,code busy,code busy,code busy,code/1 busy,code busy,flush busy,"},
		{"repeat 2; cut; end", "code busy,code busy,code,code busy,code,flush busy,"},
		{"in 7; if; cut; else; cut; cut; end; cut", "code busy,code busy,code busy,code,code,code busy,flush,"},
		{"flag 1; if; peek 1; out 1; end", "code busy,code busy,code busy,code/1 busy,code busy,code busy,flush busy,"},
	} {
		b := benchOf(t, oneRoutine(v.text, event(90, 90, 0, 1, 0)))
		for i, state := range strings.Split(v.states, ",") {
			if state != "" {
				state = "0:" + state
			}
			b.ticks([]int{0}, state)
			if len(b.plc.Log) > 0 != (state == "") {
				t.Fatalf("%q has the log %v behind tick %d", v.text, b.plc.Log, i)
			}
		}
	}
}

// Left is not looked at but counted down, also if it is that of an instruction which was put there.
func TestLeft(t *testing.T) {
	for left := 1; left <= 3; left++ {
		x := changedPlc(busyPlc(), func(x *impl.Plc) { x.Jobs[3].Left = left })
		y := tickOf(t, x, pinsOn())
		want := changedPlc(x, func(x *impl.Plc) { x.Jobs[3].Left, x.Now, x.Data.Pins = left-1, 1001, pinsOn() })
		if !equalPlcs(y, want) {
			t.Errorf("with %d ticks left the processor becomes %v, want %v", left, y, want)
		}
		// Behind the last tick of the last instruction comes PhFlush, and not before.
		x.Jobs[3].Core = impl.Core{}
		y = tickOf(t, x, pinsOn())
		if j := y.Jobs[3]; j.Left != left-1 || j.Phase != 2+asBit(left == 1) || !y.Busy {
			t.Errorf("with %d ticks left of the last instruction the job becomes %v", left, j)
		}
	}
	// The cut before the place of the job started earlier, so that it does not count any more.
	x := changedPlc(busyPlc(), func(x *impl.Plc) { x.Jobs[3].Core, x.Jobs[3].Left = coreOf(nil, frameAt(1, 1)), 1 })
	if y := tickOf(t, x, pinsOn()); !y.Busy || stateOf(y) != "4:code 2:flush 1:latch 0:code busy" {
		t.Error("the state is", stateOf(y))
	}
}

// cutAt has a job of two tasks; that of the second has a cut in place n of its code, none if n is -1.
func cutAt(n int) impl.Program {
	code := []string{"load 0", "store 1", "load 2", "store 3"}
	if n >= 0 {
		code = slices.Insert(code, n, "cut")
	}
	return programOf(nil, routinesOf("", strings.Join(code, ";")), event(50, 50, 0, 1, 0), event(90, 90, 1, 1, 1))
}

// A cut in each place of a routine, with a release of a task of higher priority at each tick.
func TestCutsInEachPlace(t *testing.T) {
	for place := -1; place <= 4; place++ {
		for at := 1; at < 11; at++ {
			b := benchOf(t, cutAt(place))
			b.pass(1, 1)
			cut, end := 1+place, 7
			if place < 0 {
				cut, end = -1, 6
			}
			for b.plc.Now < 16 {
				if b.plc.Now == at {
					b.tick(0)
				} else {
					b.tick()
				}
				if b.plc.Now-1 == cut && b.plc.Busy {
					t.Errorf("with a cut in place %d Busy is set behind it", place)
				}
			}
			start := max(at, end)
			if cut > 0 && at <= cut+1 {
				start = cut + 1
				end += 2
			}
			want := []impl.Done{{Task: 0, Arrived: at, Started: start, Finished: start + 2}, {Task: 1, Finished: end}}
			if end < start+2 {
				slices.Reverse(want)
			}
			if !slices.Equal(b.plc.Log, want) {
				t.Errorf("with a cut in place %d and a release at %d the log is %v, want %v", place, at, b.plc.Log, want)
			}
		}
	}
}

// Behind a cut without a task that could start, the job goes on at once.
func TestCutsWithoutOthers(t *testing.T) {
	b := benchOf(t, oneRoutine("cut; cut; load 0; cut; store 0; cut", event(50, 50, 0, 1, 0)))
	b.ticks([]int{0}, "0:code busy", "0:code", "0:code", "0:code busy", "0:code", "0:code busy", "0:flush", "", "")
	b.wantLast(0, 0, 0, 8)
	// A cut in a routine that is called, also as the last instruction of all.
	b = benchOf(t, programOf(nil, routinesOf("cut", "call 0", "call 1"), event(50, 50, 0, 1, 2)))
	b.ticks([]int{0}, "0:code busy", "0:code/1 busy", "0:code busy", "0:code/1 busy", "0:code busy", "0:flush", "")
	// A cut that is not executed
	b = benchOf(t, oneRoutine("in 5; if; cut; end; cut", event(50, 50, 0, 1, 0)))
	b.ticks([]int{0}, "0:code busy", "0:code busy", "0:code busy", "0:flush", "")
	b = benchOf(t, oneRoutine("in 5; if; cut; end; cut", event(50, 50, 5, 1, 0)))
	b.ticks([]int{5}, "0:code busy", "0:code busy", "0:code busy", "0:code", "0:code busy", "0:flush", "")
}

// The last instruction of a job is a cut: another job can come before its outputs are written.
func TestCutBeforeFlush(t *testing.T) {
	p := programOf(nil, routinesOf("peek 2; out 3", "flag 1; out 2; flag 1; poke 1; cut"), event(50, 50, 0, 1, 0), event(90, 90, 1, 1, 1))
	b := benchOf(t, p)
	b.pass(1, 1)
	b.pass(4, 0, 2)
	b.wantWires(1)
	b.ticks([]int{2}, "1:code busy", "1:flush", "1:flush 0:code busy")
	b.wantWires(1)
	b.ticks([]int{2}, "1:flush 0:code/1 busy", "1:flush 0:code busy", "1:flush 0:flush busy", "1:flush")
	b.wantWires(1, 3)
	b.wantLast(0, 1, 7, 12)
	b.ticks(nil, "")
	b.wantWires(1, 2, 3)
	b.wantLast(1, 0, 0, 13)
}

// The outputs of a job that ends: only those that it left otherwise than it found them.
func TestFlushPhase(t *testing.T) {
	for outs := range 256 {
		for _, first := range []int{0, 255, 0x0f, 0x55, outs, 255 - outs} {
			for _, wires := range []int{0, 255, 0x33, first} {
				x := idlePlc()
				x.Jobs, x.Busy = []impl.Job{{Task: 2, Arrived: 1000, Started: 1000, Phase: 3, Latched: pinsOn(), Outs: pinsByBits(outs), First: pinsByBits(first)}}, true
				x.Data.Wires = pinsByBits(wires)
				y, code := impl.TickPlc(x, pinsOn())
				if want := wires&^(outs^first) | outs&(outs^first); code != 0 || !slices.Equal(y.Data.Wires, pinsByBits(want)) {
					t.Fatalf("Outs %08b, First %08b and Wires %08b become %v, want %08b", outs, first, wires, y.Data.Wires, want)
				}
			}
		}
	}
	x := changedPlc(busyPlc(), func(x *impl.Plc) { x.Jobs[3].Left, x.Jobs[3].Phase, x.Jobs[3].Core = 0, 3, impl.Core{} })
	y := tickOf(t, x, pinsOn())
	if len(y.Jobs) != 3 || y.Busy || y.Late != 4 || y.Sources[0].Done != 32 || len(y.Log) != 4 || y.Log[3] != (impl.Done{Task: 0, Arrived: 650, Started: 950, Finished: 1001}) {
		t.Error("the processor becomes", y)
	}
	for k := 1; k < 5; k++ {
		if !equalSources(y.Sources[k], x.Sources[k]) {
			t.Error("source", k, "becomes", y.Sources[k])
		}
	}
}

// twoWriters has a job that is preempted behind its first half, by one that runs as a whole.
func twoWriters(high, first, second string) impl.Program {
	return programOf(nil, routinesOf(high, first+"; cut;"+second), event(90, 90, 0, 1, 0), event(200, 200, 1, 1, 1))
}

// wantOutputs expects outputs at the end of both jobs, and those behind the job of higher priority. Before both, the output 5 is true.
func wantOutputs(t *testing.T, p impl.Program, between, end []int) {
	t.Helper()
	p.Safe[5] = true
	b := benchOf(t, p)
	b.pass(1, 1)
	b.pass(1, 0)
	for len(b.plc.Log) == 0 {
		b.tick()
	}
	if b.plc.Log[0].Task != 0 {
		t.Fatal("the log is", b.plc.Log)
	}
	b.wantWires(between...)
	for len(b.plc.Jobs) > 0 {
		b.tick()
	}
	b.wantWires(end...)
}

// Two tasks that write the same output, 4 or 5; the second one began first and ends last.
func TestTwoWriters(t *testing.T) {
	nothing := "load 0; store 0"
	wantOutputs(t, twoWriters(nothing, nothing, nothing), []int{5}, []int{5})
	wantOutputs(t, twoWriters("flag 1; out 4", nothing, nothing), []int{4, 5}, []int{4, 5})
	wantOutputs(t, twoWriters(nothing, "flag 1; out 4", nothing), []int{5}, []int{4, 5})
	wantOutputs(t, twoWriters(nothing, "flag 0; out 5", nothing), []int{5}, nil)
	wantOutputs(t, twoWriters("flag 0; out 5", nothing, nothing), nil, nil)
	// The second one writes the value that it found, which is no change.
	wantOutputs(t, twoWriters("flag 1; out 4", "flag 0; out 4", "flag 0; out 4"), []int{4, 5}, []int{4, 5})
	wantOutputs(t, twoWriters("flag 0; out 5", "flag 1; out 5", nothing), nil, nil)
	wantOutputs(t, twoWriters("flag 1; out 4", "flag 1; out 4", "flag 0; out 4"), []int{4, 5}, []int{4, 5})
	// It changes the value, and the first one changes it too.
	wantOutputs(t, twoWriters("flag 1; out 4", "flag 1; out 4", nothing), []int{4, 5}, []int{4, 5})
	wantOutputs(t, twoWriters("flag 1; out 4; flag 0; out 5", nothing, "flag 0; out 5; flag 1; out 4"), []int{4}, []int{4})
	// poke writes at once, and at the end once more if that is a change.
	wantOutputs(t, twoWriters("flag 0; poke 4", "flag 1; poke 4", nothing), []int{5}, []int{4, 5})
	wantOutputs(t, twoWriters("flag 0; out 4", "flag 1; poke 4", nothing), []int{5}, []int{4, 5})
	wantOutputs(t, twoWriters(nothing, "flag 1; poke 4", nothing), []int{4, 5}, []int{4, 5})
	wantOutputs(t, twoWriters("flag 1; poke 4", "flag 1; poke 4", "flag 0; poke 4"), []int{4, 5}, []int{5})
	wantOutputs(t, twoWriters("flag 1; poke 4", "flag 1; poke 4", "flag 0; out 4"), []int{4, 5}, []int{4, 5})
	wantOutputs(t, twoWriters("flag 0; out 4", "flag 1; poke 4", "flag 0; out 4"), []int{5}, []int{5})
	wantOutputs(t, twoWriters("flag 1; poke 4", nothing, "flag 0; poke 4"), []int{4, 5}, []int{5})
	// Globals and blocks are common to all jobs, inputs are latched by each.
	wantOutputs(t, twoWriters("push 3; store 0", "push 2; store 0", "load 0; push 3; same; out 7"), []int{5}, []int{5, 7})
	wantOutputs(t, twoWriters("in 1; not; out 6", "in 1; out 4", "in 0; not; out 3"), []int{5, 6}, []int{3, 4, 5, 6})
}

// poke writes its output at its first tick.
func TestPokeAtOnce(t *testing.T) {
	b := benchOf(t, oneRoutine("flag 1; poke 3; flag 0; poke 3; flag 1; out 2", event(90, 90, 0, 1, 0)))
	b.pass(2, 0)
	b.wantWires()
	b.ticks(nil, "0:code/1 busy")
	b.wantWires(3)
	b.ticks(nil, "0:code busy", "0:code busy")
	b.wantWires(3)
	b.ticks(nil, "0:code/1 busy")
	b.wantWires()
	b.ticks(nil, "0:code busy", "0:code busy", "0:flush busy")
	b.wantWires()
	b.ticks(nil, "")
	b.wantWires(2)
}

// A job on top of a log of each length
func TestLogIsLimited(t *testing.T) {
	for n := 36; n <= 40; n++ {
		x := changedPlc(idlePlc(), func(x *impl.Plc) {
			x.Log = nil
			for i := range n {
				x.Log = append(x.Log, impl.Done{Task: i % 5, Arrived: i, Started: 2 * i, Finished: 3 * i})
			}
			x.Jobs = []impl.Job{jobOf(2, 700, 800, 3, 0, impl.Core{}), jobOf(0, 850, 900, 3, 0, impl.Core{})}
		})
		y := tickOf(t, x, pinsOn())
		want := append(slices.Clone(x.Log), impl.Done{Task: 0, Arrived: 850, Started: 900, Finished: 1001})
		want = want[max(n-39, 0):]
		if !slices.Equal(y.Log, want) {
			t.Errorf("behind %d entries the log is %v, want %v", n, y.Log, want)
		}
		z := tickOf(t, y, pinsOn())
		want = append(want, impl.Done{Task: 2, Arrived: 700, Started: 800, Finished: 1002})
		want = want[max(len(want)-40, 0):]
		if !slices.Equal(z.Log, want) || len(z.Log) > 40 {
			t.Errorf("behind %d entries and one more the log is %v, want %v", n, z.Log, want)
		}
	}
	b := benchOf(t, programOf(nil, make([]impl.Routine, 1), cyclic(2, 2, 0)))
	b.plc = runOf(t, b.plc, scriptOf(200))
	for i, d := range b.plc.Log {
		if at := 120 + 2*i; len(b.plc.Log) != 40 || d != (impl.Done{Arrived: at, Started: at, Finished: at + 2}) {
			t.Error("of", len(b.plc.Log), "entries number", i, "is", d)
		}
	}
}

// The deadline is 400 ticks behind the release. The job ends at 1001.
func TestLate(t *testing.T) {
	for _, v := range []struct{ arrived, late, want int }{
		{1000, 7, 7}, {602, 7, 7}, {601, 7, 7}, {600, 7, 8}, {599, 7, 8}, {0, 7, 8}, {0, 0, 1}, {601, 0, 0}, {600, largestValue - 1, largestValue}, {600, largestValue, largestValue}, {601, largestValue, largestValue}, {601, largestValue - 1, largestValue - 1},
	} {
		x := changedPlc(idlePlc(), func(x *impl.Plc) {
			x.Late, x.Jobs = v.late, []impl.Job{jobOf(2, v.arrived, 1000, 3, 0, impl.Core{})}
		})
		if y := tickOf(t, x, pinsOn()); y.Late != v.want {
			t.Errorf("a release at %d makes Late %d from %d, want %d", v.arrived, y.Late, v.late, v.want)
		}
	}
	// The deadline is that of the task itself: 190, 290, 400, 390 and 900.
	for k, deadline := range []int{190, 290, 400, 390, 900} {
		for _, late := range []bool{false, true} {
			x := changedPlc(idlePlc(), func(x *impl.Plc) {
				x.Jobs = []impl.Job{jobOf(k, 1001-deadline-asBit(late), 1000, 3, 0, impl.Core{})}
			})
			if y := tickOf(t, x, pinsOn()); y.Late != 3+asBit(late) {
				t.Errorf("a job of task %d that ends %t late makes Late %d from 3", k, late, y.Late)
			}
		}
	}
}

func TestDoneIsCounted(t *testing.T) {
	for k := range 5 {
		for _, v := range []struct{ done, want int }{{0, 1}, {31, 32}, {largestValue - 1, largestValue}, {largestValue, largestValue}} {
			x := changedPlc(idlePlc(), func(x *impl.Plc) {
				x.Jobs, x.Sources[k].Done = []impl.Job{jobOf(k, 900, 1000, 3, 0, impl.Core{})}, v.done
			})
			if y := tickOf(t, x, pinsOn()); y.Sources[k].Done != v.want {
				t.Errorf("Done of source %d becomes %d from %d, want %d", k, y.Sources[k].Done, v.done, v.want)
			}
		}
	}
}

// Failed calculations and blocks are those of the data, whichever job it is.
func TestDataOfJobs(t *testing.T) {
	b := benchOf(t, programOf([]int{3}, routinesOf("push 1; push 0; div; store 0; flag 1; block 0; out 0"), event(90, 90, 0, 1, 0), event(90, 90, 1, 1, 0)))
	b.pass(1, 0, 1)
	b.pass(30)
	if d := b.plc.Data; d.Wrong != 2 || !d.Blocks[0].On {
		t.Error("the data is", d)
	}
	// The edge was reported to the first of both jobs, and the second one resets the output.
	b.wantWires()
	if len(b.plc.Log) != 2 {
		t.Error("the log is", b.plc.Log)
	}
	x := changedPlc(b.plc, func(x *impl.Plc) { x.Data.Wrong = largestValue })
	x = runOf(t, x, scriptOf(100))
	x = runOf(t, x, scriptOf(30, 0, 1))
	if x.Data.Wrong != largestValue || x.Sources[0].Done != 2 {
		t.Error("Wrong is", x.Data.Wrong, "and the source", x.Sources[0])
	}
}
