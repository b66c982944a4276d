package tests

import (
	"fmt"
	"math"
	"math/rand"
	"slices"
	"testing"

	"loop.example/g00684/impl"
)

// wantStep expects the data and the core behind one step; both cores are valid.
func wantStep(t *testing.T, list []impl.Routine, d impl.Data, c impl.Core, now, ticks int, want impl.Data, next impl.Core) {
	t.Helper()
	y, z, n, code := impl.StepCore(list, d, c, now)
	if code != 0 || n != ticks || !equalData(y, want) || !equalCores(z, next) {
		t.Errorf("StepCore(%s, %v, %v, %d) = %v, %v, %d, %d, want %v, %v, %d", brief(list), d, c, now, y, z, n, code, want, next, ticks)
	}
	if !impl.CoreOK(list, kindsOf(d), c) || !impl.CoreOK(list, kindsOf(d), z) || !impl.DataOK(y) {
		t.Errorf("StepCore(%s, %v, %v, %d) = %v, %v: one of these is not valid", brief(list), d, c, now, y, z)
	}
}

// wantMove is wantStep for an instruction that changes the core only.
func wantMove(t *testing.T, list []impl.Routine, c impl.Core, ticks int, next impl.Core) {
	t.Helper()
	r := rand.New(rand.NewSource(111))
	for _, now := range []int{0, 1, largestValue} {
		d := mixedData(r, nil)
		wantStep(t, list, d, c, now, ticks, d, next)
	}
}

// wantNoStep expects a code of StepCore and nothing beside it, and the same of BlockRun.
func wantNoStep(t *testing.T, list []impl.Routine, d impl.Data, c impl.Core, now, want int) {
	t.Helper()
	y, z, n, code := impl.StepCore(list, d, c, now)
	if code != want || n != 0 || !isZeroCore(z) || !isZeroData(y) {
		t.Errorf("StepCore(%s, %s, %s, %d) = %v, %v, %d, %d, want code %d", brief(list), brief(d), brief(c), now, y, z, n, code, want)
	}
	wantNoBlock(t, list, d, c, now, want)
}

func wantNoBlock(t *testing.T, list []impl.Routine, d impl.Data, c impl.Core, now, want int) {
	t.Helper()
	y, z, n, code := impl.BlockRun(list, d, c, now)
	if code != want || n != 0 || !isZeroCore(z) || !isZeroData(y) {
		t.Errorf("BlockRun(%s, %s, %s, %d) = %v, %v, %d, %d, want code %d", brief(list), brief(d), brief(c), now, y, z, n, code, want)
	}
}

// Every operation that ApplyOp executes, with a frame of its own and above one that has elements on the stack.
func TestStepOfEveryOp(t *testing.T) {
	r := rand.New(rand.NewSource(112))
	for _, row := range applicable() {
		code := slices.Concat(pushing(row.takes), []impl.Instr{row.x}, popping(row.gives), parse("cut"))
		list := []impl.Routine{{Code: code}, {Code: parse("push 9; in 0; call 0; out 0; store 0")}}
		pc := len(row.takes)
		for range 40 {
			d := mixedData(r, allKinds())
			below := mixedStack(r, "ib")
			stack := mixedStack(r, row.takes)
			now := mixedTime(r)
			want := copyOfData(d)
			next := applyByRule(&want, row.x, stack, now)
			wantStep(t, list, d, coreOf(stack, frameAt(0, pc)), now, ticksOf(row.x.Op), want, coreOf(next, frameAt(0, pc+1)))
			wantStep(t, list, d, coreOf(slices.Concat(below, stack), frameAt(1, 3), frameAt(0, pc)), now, ticksOf(row.x.Op),
				want, coreOf(slices.Concat(below, next), frameAt(1, 3), frameAt(0, pc+1)))
		}
	}
}

// The stack of all frames together may have more elements than that of one routine.
func TestStepWithFullStacks(t *testing.T) {
	fill := "push 1; push 2; push 3; push 4; push 5; push 6; push 7;"
	drain := "store 0; store 0; store 0; store 0; store 0; store 0; store 0;"
	list := routinesOf(fill + "load 3; store 1;" + drain)
	frames := []impl.Frame{frameAt(0, 7)}
	for k := range 5 {
		list = append(list, routinesOf(fill+fmt.Sprintf("load 4; call %d; store 2;", k)+drain)...)
		frames = append(frames, frameAt(k+1, 9))
	}
	slices.Reverse(frames)
	d := newData()
	d.Globals[3] = -5
	for i := range frames {
		stack := append(slices.Repeat([]int{1, 2, 3, 4, 5, 6, 7, 8}, 5-i), 1, 2, 3, 4, 5, 6, 7)
		full := append(slices.Clone(stack), -5)
		before, after := slices.Clone(frames[i:]), slices.Clone(frames[i:])
		after[5-i].Pc = 8
		wantStep(t, list, d, coreOf(stack, before...), 0, 1, d, coreOf(full, after...))
		behind := slices.Clone(after)
		behind[5-i].Pc = 9
		wantStep(t, list, d, coreOf(full, after...), 0, 1, changed(d, func(d *impl.Data) { d.Globals[1] = -5 }), coreOf(stack, behind...))
	}
}

// A block sees the time of the step.
func TestStepAtATime(t *testing.T) {
	list := routinesOf("flag 1; push 7; block 0; out 0")
	for _, now := range []int{0, 1, 500, largestValue - 1, largestValue} {
		d := newData(1)
		want := changed(d, func(d *impl.Data) { d.Blocks[0] = impl.Fb{Kind: 1, On: true, Start: now} })
		wantStep(t, list, d, coreOf([]int{1, 7}, frameAt(0, 2)), now, 3, want, coreOf([]int{0}, frameAt(0, 3)))
	}
	for _, now := range append(noValues(), -1, -2, smallestValue) {
		wantNoStep(t, list, newData(1), coreOf([]int{1, 7}, frameAt(0, 2)), now, impl.ErrRange)
	}
}

func TestStepOfIf(t *testing.T) {
	for _, v := range []struct {
		text     string
		pc       int
		yes, not int
	}{
		{"in 0; if; cut; end; cut", 1, 2, 4},
		{"in 0; if; cut; else; cut; end; cut", 1, 2, 4},
		{"in 0; if; end; cut", 1, 2, 3},
		{"in 0; if; else; end; cut", 1, 2, 3},
		{"in 0; if; in 0; if; cut; else; cut; cut; end; else; cut; end", 1, 2, 10},
		{"in 0; if; in 0; if; cut; else; cut; cut; end; else; cut; end", 3, 4, 6},
		{"in 0; if; in 0; if; cut; end; else; cut; end", 3, 4, 6},
	} {
		list := routinesOf(v.text)
		wantMove(t, list, coreOf([]int{1}, frameAt(0, v.pc)), 1, coreOf(nil, frameAt(0, v.yes)))
		wantMove(t, list, coreOf([]int{0}, frameAt(0, v.pc)), 1, coreOf(nil, frameAt(0, v.not)))
	}
	// Counters and elements below stay as they are, and repeats that are left out are not opened.
	list := routinesOf("push 5; in 1; repeat 4; in 0; if; repeat 7; cut; end; else; repeat 8; cut; end; end; end; out 1; store 0")
	wantMove(t, list, coreOf([]int{-3, 0, 1}, frameAt(0, 4, 3)), 1, coreOf([]int{-3, 0}, frameAt(0, 5, 3)))
	wantMove(t, list, coreOf([]int{-3, 1, 0}, frameAt(0, 4, 3)), 1, coreOf([]int{-3, 1}, frameAt(0, 9, 3)))
}

func TestStepOfElseAndEnd(t *testing.T) {
	list := routinesOf("push 5; repeat 4; in 0; if; cut; else; cut; cut; end; cut; end; store 0")
	wantMove(t, list, coreOf([]int{8}, frameAt(0, 5, 2)), 1, coreOf([]int{8}, frameAt(0, 9, 2)))
	wantMove(t, list, coreOf([]int{8}, frameAt(0, 8, 2)), 1, coreOf([]int{8}, frameAt(0, 9, 2)))
	list = routinesOf("in 0; if; in 0; if; end; else; end; in 0; if; else; end; cut")
	for pc, next := range map[int]int{4: 5, 5: 7, 6: 7, 9: 11, 10: 11} {
		wantMove(t, list, coreOf(nil, frameAt(0, pc)), 1, coreOf(nil, frameAt(0, next)))
	}
}

func TestStepOfRepeat(t *testing.T) {
	for a := 1; a <= 20; a++ {
		list := routinesOf(fmt.Sprintf("cut; repeat %d; cut; end; cut", a))
		wantMove(t, list, coreOf(nil, frameAt(0, 1)), 1, coreOf(nil, frameAt(0, 2, a)))
		wantMove(t, list, coreOf(nil, frameAt(0, 3, 1)), 1, coreOf(nil, frameAt(0, 4)))
		for n := 2; n <= a; n++ {
			wantMove(t, list, coreOf(nil, frameAt(0, 3, n)), 1, coreOf(nil, frameAt(0, 2, n-1)))
		}
		// A body without instructions.
		list = routinesOf(fmt.Sprintf("repeat %d; end; cut", a))
		wantMove(t, list, coreOf(nil, frameAt(0, 0)), 1, coreOf(nil, frameAt(0, 1, a)))
		wantMove(t, list, coreOf(nil, frameAt(0, 1, 1)), 1, coreOf(nil, frameAt(0, 2)))
		for n := 2; n <= a; n++ {
			wantMove(t, list, coreOf(nil, frameAt(0, 1, n)), 1, coreOf(nil, frameAt(0, 1, n-1)))
		}
	}
	// Only the innermost counter changes, and elements below stay.
	list := routinesOf("push 1; repeat 5; repeat 6; repeat 7; repeat 8; cut; end; cut; end; end; cut; end; store 0")
	wantMove(t, list, coreOf([]int{3}, frameAt(0, 4, 4, 5, 6)), 1, coreOf([]int{3}, frameAt(0, 5, 4, 5, 6, 8)))
	wantMove(t, list, coreOf([]int{3}, frameAt(0, 6, 4, 5, 6, 7)), 1, coreOf([]int{3}, frameAt(0, 5, 4, 5, 6, 6)))
	wantMove(t, list, coreOf([]int{3}, frameAt(0, 6, 4, 5, 6, 1)), 1, coreOf([]int{3}, frameAt(0, 7, 4, 5, 6)))
	wantMove(t, list, coreOf([]int{3}, frameAt(0, 8, 4, 5, 2)), 1, coreOf([]int{3}, frameAt(0, 4, 4, 5, 1)))
	wantMove(t, list, coreOf([]int{3}, frameAt(0, 8, 4, 5, 1)), 1, coreOf([]int{3}, frameAt(0, 9, 4, 5)))
	wantMove(t, list, coreOf([]int{3}, frameAt(0, 9, 4, 5)), 1, coreOf([]int{3}, frameAt(0, 3, 4, 4)))
	wantMove(t, list, coreOf([]int{3}, frameAt(0, 11, 1)), 1, coreOf([]int{3}, frameAt(0, 12)))
}

func TestStepOfCall(t *testing.T) {
	list := routinesOf("cut", "push 5; repeat 3; call 0; end; store 0", "call 1; cut; in 0; call 0; call 1; out 0")
	wantMove(t, list, coreOf([]int{6}, frameAt(1, 2, 2)), 2, coreOf([]int{6}, frameAt(1, 3, 2), frameAt(0, 0)))
	wantMove(t, list, coreOf(nil, frameAt(2, 0)), 2, coreOf(nil, frameAt(2, 1), frameAt(1, 0)))
	wantMove(t, list, coreOf([]int{1}, frameAt(2, 3)), 2, coreOf([]int{1}, frameAt(2, 4), frameAt(0, 0)))
	wantMove(t, list, coreOf([]int{0, 6}, frameAt(2, 5), frameAt(1, 2, 1)), 2, coreOf([]int{0, 6}, frameAt(2, 5), frameAt(1, 3, 1), frameAt(0, 0)))
	// The call is the last instruction of its routine, which stays below the other one.
	list = routinesOf("cut", "call 0", "call 1", "call 2", "call 3", "call 4")
	var frames []impl.Frame
	for k := 5; k > 0; k-- {
		frames = slices.Clip(frames)
		wantMove(t, list, coreOf(nil, append(frames, frameAt(k, 0))...), 2, coreOf(nil, append(frames, frameAt(k, 1), frameAt(k-1, 0))...))
		frames = append(frames, frameAt(k, 1))
	}
}

// wantEnd executes the last instruction of routine 0, to which a core of it, below others or not, is put.
func wantEnd(t *testing.T, text string, stack []int, f impl.Frame, ticks int) {
	t.Helper()
	list := routinesOf(text, "call 0", "cut; call 1", "repeat 3; call 2; end", "push 7; call 3; store 0; cut", "call 4")
	d := newData()
	step := func(stack []int, next impl.Core, frames ...impl.Frame) {
		t.Helper()
		wantStep(t, list, d, coreOf(stack, append(frames, f)...), 0, ticks, d, next)
	}
	step(stack, impl.Core{})
	// One, two and three frames end with it.
	step(stack, impl.Core{}, frameAt(1, 1))
	step(stack, impl.Core{}, frameAt(2, 2), frameAt(1, 1))
	// The next one is in a repeat, of which the end is to come.
	step(stack, coreOf(nil, frameAt(3, 2, 1)), frameAt(3, 2, 1), frameAt(2, 2), frameAt(1, 1))
	step(stack, coreOf(nil, frameAt(3, 2, 3)), frameAt(3, 2, 3), frameAt(2, 2), frameAt(1, 1))
	step(append([]int{9}, stack...), coreOf([]int{9}, frameAt(5, 1), frameAt(4, 2), frameAt(3, 2, 2)),
		frameAt(5, 1), frameAt(4, 2), frameAt(3, 2, 2), frameAt(2, 2), frameAt(1, 1))
	// The next one has more instructions.
	list = routinesOf(text, "push 7; in 0; call 0; out 0; store 0", "call 1; cut", "call 2")
	step(append([]int{9, 1}, stack...), coreOf([]int{9, 1}, frameAt(1, 3)), frameAt(1, 3))
	step(append([]int{9, 1}, stack...), coreOf([]int{9, 1}, frameAt(3, 1), frameAt(2, 1), frameAt(1, 3)), frameAt(3, 1), frameAt(2, 1), frameAt(1, 3))
}

func TestStepAtTheEnd(t *testing.T) {
	wantEnd(t, "cut", nil, frameAt(0, 0), 1)
	wantEnd(t, "cut; cut", nil, frameAt(0, 1), 1)
	wantEnd(t, "load 0; store 0", []int{0}, frameAt(0, 1), 1)
	wantEnd(t, "in 0; poke 5", []int{0}, frameAt(0, 1), 2)
	// the end of a repeat in its last iteration
	wantEnd(t, "repeat 2; end", nil, frameAt(0, 1, 1), 1)
	wantEnd(t, "repeat 1; repeat 2; end; end", nil, frameAt(0, 3, 1), 1)
	// the end of an if, an else, and an if that has no else
	wantEnd(t, "in 0; if; cut; end", nil, frameAt(0, 3), 1)
	wantEnd(t, "in 0; if; cut; end", []int{0}, frameAt(0, 1), 1)
	wantEnd(t, "in 0; if; end", []int{0}, frameAt(0, 1), 1)
	wantEnd(t, "in 0; if; cut; else; cut; end", nil, frameAt(0, 3), 1)
	wantEnd(t, "in 0; if; cut; else; cut; end", nil, frameAt(0, 5), 1)
	wantEnd(t, "in 0; if; cut; else; in 0; if; end; end", nil, frameAt(0, 3), 1)
}

// These come near the end without reaching it.
func TestStepBeforeTheEnd(t *testing.T) {
	list := routinesOf("repeat 2; end", "in 0; if; end", "in 0; if; else; end", "in 0; if; in 0; if; end; end", "repeat 2; in 0; if; end; end")
	wantMove(t, list, coreOf(nil, frameAt(0, 1, 2)), 1, coreOf(nil, frameAt(0, 1, 1)))
	wantMove(t, list, coreOf([]int{1}, frameAt(1, 1)), 1, coreOf(nil, frameAt(1, 2)))
	wantMove(t, list, coreOf([]int{0}, frameAt(2, 1)), 1, coreOf(nil, frameAt(2, 3)))
	wantMove(t, list, coreOf([]int{1}, frameAt(2, 1)), 1, coreOf(nil, frameAt(2, 2)))
	wantMove(t, list, coreOf([]int{0}, frameAt(3, 3)), 1, coreOf(nil, frameAt(3, 5)))
	wantMove(t, list, coreOf([]int{0}, frameAt(4, 2, 1)), 1, coreOf(nil, frameAt(4, 4, 1)))
}

// A routine without instructions has ended as soon as it is called, and what ends with that call has ended too.
func TestStepOfCallsOfNothing(t *testing.T) {
	list := routinesOf("", "call 0", "call 1", "call 2; cut", "repeat 2; call 0; end; call 1", "push 6; call 2; store 0")
	wantMove(t, list, coreOf(nil, frameAt(1, 0)), 2, impl.Core{})
	wantMove(t, list, coreOf(nil, frameAt(2, 0)), 2, coreOf(nil, frameAt(2, 1), frameAt(1, 0)))
	wantMove(t, list, coreOf(nil, frameAt(2, 1), frameAt(1, 0)), 2, impl.Core{})
	wantMove(t, list, coreOf(nil, frameAt(3, 1), frameAt(2, 1), frameAt(1, 0)), 2, coreOf(nil, frameAt(3, 1)))
	wantMove(t, list, coreOf(nil, frameAt(4, 1, 2)), 2, coreOf(nil, frameAt(4, 2, 2)))
	wantMove(t, list, coreOf(nil, frameAt(4, 1, 1)), 2, coreOf(nil, frameAt(4, 2, 1)))
	wantMove(t, list, coreOf(nil, frameAt(4, 2, 1)), 1, coreOf(nil, frameAt(4, 3)))
	wantMove(t, list, coreOf(nil, frameAt(4, 3)), 2, coreOf(nil, frameAt(4, 4), frameAt(1, 0)))
	wantMove(t, list, coreOf(nil, frameAt(4, 4), frameAt(1, 0)), 2, impl.Core{})
	wantMove(t, list, coreOf([]int{-6}, frameAt(5, 2), frameAt(2, 1), frameAt(1, 0)), 2, coreOf([]int{-6}, frameAt(5, 2)))
	// All calls of routines without instructions, one in another up to the largest number of routines.
	list = routinesOf("", "call 0", "call 1", "call 2", "call 3", "call 4")
	wantMove(t, list, coreOf(nil, frameAt(5, 1), frameAt(4, 1), frameAt(3, 1), frameAt(2, 1), frameAt(1, 0)), 2, impl.Core{})
}

// The errors that StepCore and BlockRun have in common, each beside the later ones.
func TestStepErrors(t *testing.T) {
	long := slices.Repeat(routinesOf("add"), longestList+1)
	rejected, heavy := routinesOf("cut", "end"), routinesOf(loadOf(3001))
	wrong := newData(1, 5)
	invalid, ended := coreOf([]int{1}, frameAt(0, 0)), impl.Core{}
	start := coreOf(nil, frameAt(0, 0))
	for _, now := range []int{0, -1, largestValue + 1, math.MinInt, math.MaxInt} {
		for _, c := range []impl.Core{start, ended, invalid} {
			wantNoStep(t, long, newData(1), c, now, impl.ErrLong)
			wantNoStep(t, long, wrong, c, now, impl.ErrLong)
			wantNoStep(t, rejected, wrong, c, now, impl.ErrBad)
			wantNoStep(t, heavy, wrong, c, now, impl.ErrBad)
			wantNoStep(t, nil, impl.Data{}, c, now, impl.ErrBad)
			wantNoStep(t, rejected, newData(1), c, now, impl.ErrNest)
			wantNoStep(t, append(slices.Clone(heavy), rejected...), newData(1), c, now, impl.ErrNest)
			wantNoStep(t, make([]impl.Routine, 7), newData(1), c, now, impl.ErrBad)
		}
		wantNoStep(t, heavy, newData(1), invalid, now, impl.ErrBad)
		wantNoStep(t, heavy, newData(1), coreOf([]int{0}), now, impl.ErrBad)
		if now != 0 {
			wantNoStep(t, heavy, newData(1), start, now, impl.ErrRange)
			wantNoStep(t, heavy, newData(1), ended, now, impl.ErrRange)
		}
	}
	for _, list := range [][]impl.Routine{nil, heavy, routinesOf("")} {
		wantNoStep(t, list, newData(1), ended, 0, impl.ErrEnd)
		wantNoStep(t, list, newData(1), impl.Core{Frames: []impl.Frame{}, Stack: []int{}}, largestValue, impl.ErrEnd)
	}
	wantNoBlock(t, heavy, newData(1), start, 0, impl.ErrLoad)
}

func TestStepOfInvalidData(t *testing.T) {
	for _, d := range invalidDatas() {
		wantNoStep(t, routinesOf("cut"), d, coreOf(nil, frameAt(0, 0)), 0, impl.ErrBad)
	}
}

// The kinds are those of the data, and every code of VerifyAll may come.
func TestStepOfRejectedRoutines(t *testing.T) {
	for _, v := range []struct {
		text string
		want int
	}{
		{"value 1; store 0", impl.ErrNone}, {"in 0; push 1; block 1; out 0", impl.ErrNone}, {"in 0; push 1; block 0; out 0", impl.ErrType},
		{"in 0; block 0; out 0", impl.ErrStack}, {"call 1", impl.ErrCall}, {"add", impl.ErrStack}, {"push 1", impl.ErrStack}, {"in 0; store 0", impl.ErrType},
		{"push 1; push 1; push 1; push 1; push 1; push 1; push 1; push 1; push 1", impl.ErrFull}, {"repeat 1; repeat 1; repeat 1; repeat 1; repeat 1", impl.ErrDepth},
		{"end", impl.ErrNest}, {"repeat 2; else; end", impl.ErrNest},
	} {
		for _, c := range []impl.Core{{}, coreOf(nil, frameAt(0, 0)), coreOf([]int{2})} {
			wantNoStep(t, routinesOf("cut", v.text), newData(4), c, 0, v.want)
			wantNoStep(t, routinesOf("cut", v.text), newData(4), c, -1, v.want)
		}
	}
	list := routinesOf("in 0; block 0; out 0")
	wantStep(t, list, newData(3), coreOf([]int{1}, frameAt(0, 1)), 0, 3,
		changed(newData(3), func(d *impl.Data) { d.Blocks[0].On = true }), coreOf([]int{1}, frameAt(0, 2)))
	wantNoStep(t, list, newData(1), coreOf([]int{1}, frameAt(0, 1)), 0, impl.ErrStack)
}
