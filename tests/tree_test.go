package tests

import (
	"fmt"
	"math/rand"
	"slices"
	"strings"
	"testing"

	"loop.example/g00684/impl"
)

// runBoth executes a routine with both interpreters, which must agree, and returns what TreeRun returns.
func runBoth(t *testing.T, list []impl.Routine, routine int, d impl.Data, now int) (impl.Data, int, int) {
	t.Helper()
	y, n, code := impl.TreeRun(list, routine, d, now)
	flat, m, longest, flatCode := impl.FlatRun(list, routine, d, now)
	if m != n || flatCode != code || longest < 0 || longest > n || !equalData(flat, y) {
		t.Errorf("FlatRun(%s, %d, %s, %d) = %v, %d, %d, %d, and TreeRun %v, %d, %d",
			short(shown(list)), routine, short(shown(d)), now, flat, m, longest, flatCode, y, n, code)
	}
	return y, n, code
}

// wantRun executes the last routine and expects the ticks and the state.
func wantRun(t *testing.T, list []impl.Routine, d impl.Data, now, ticks int, want impl.Data) {
	t.Helper()
	y, n, code := runBoth(t, list, len(list)-1, d, now)
	if code != 0 || n != ticks || !equalData(y, want) || !impl.DataOK(y) {
		t.Errorf("TreeRun(%v, %d, %v, %d) = %v, %d, %d, want %v, %d ticks", list, len(list)-1, d, now, y, n, code, want, ticks)
	}
}

// wantNoRun expects a code and nothing beside it.
func wantNoRun(t *testing.T, list []impl.Routine, routine int, d impl.Data, now, want int) {
	t.Helper()
	if y, n, code := runBoth(t, list, routine, d, now); code != want || n != 0 || !isZeroData(y) {
		t.Errorf("TreeRun(%s, %d, %s, %d) = %v, %d, %d, want code %d", short(shown(list)), routine, short(shown(d)), now, y, n, code, want)
	}
}

// clock is code of 6 ticks that starts timer n: the start is the time of its beginning plus 2.
func clock(n int) string {
	return fmt.Sprintf("flag 1; push 1000; block %d; out 7", n)
}

// withClocks replaces @N by clock N.
func withClocks(text string) string {
	for n := range 8 {
		text = strings.ReplaceAll(text, fmt.Sprint("@", n), clock(n))
	}
	return text
}

func eightTimers() []int {
	return slices.Repeat([]int{1}, 8)
}

// wantTimes executes the last text at several times, with pin 0 latched as told, and expects the ticks and, for each clock,
// the number of ticks that were elapsed when it was reached first, -1 if it never is.
func wantTimes(t *testing.T, pin bool, texts []string, ticks int, begins ...int) {
	t.Helper()
	var list []impl.Routine
	for _, text := range texts {
		list = append(list, routinesOf(withClocks(text))...)
	}
	for _, now := range []int{0, 1, 10, 777, largestValue - 5000} {
		d := newData(eightTimers()...)
		d.Latched[0] = pin
		y, n, code := runBoth(t, list, len(list)-1, d, now)
		if code != 0 || n != ticks {
			t.Errorf("%q with %t at %d takes %d ticks, %d, want %d", texts, pin, now, n, code, ticks)
			return
		}
		for i, begin := range begins {
			f := y.Blocks[i]
			if f.On != (begin >= 0) || f.On && f.Start != now+begin+2 {
				t.Errorf("%q with %t at %d leaves %v in block %d, which begins after %d ticks", texts, pin, now, f, i, begin)
			}
		}
	}
}

func TestRunOfNothing(t *testing.T) {
	r := rand.New(rand.NewSource(81))
	for n := 1; n <= 6; n++ {
		for _, now := range []int{0, 5, largestValue} {
			d := mixedData(r, allKinds())
			wantRun(t, make([]impl.Routine, n), d, now, 0, d)
		}
	}
	d := mixedData(r, nil)
	wantRun(t, routinesOf("", "call 0"), d, 0, 2, d)
	wantRun(t, routinesOf("", "call 0; call 0", "", "call 2; call 1"), d, 0, 8, d)
	wantRun(t, routinesOf("cut"), d, largestValue, 1, d)
	wantRun(t, routinesOf("repeat 20; end"), d, 0, 21, d)
}

// Every operation takes its ticks, and the one behind it has its effect that much later.
func TestRunOfEveryOp(t *testing.T) {
	for _, row := range plainRows() {
		before := slices.Concat(pushing(row.takes), []impl.Instr{row.x}, popping(row.gives))
		code := slices.Concat(before, parse(clock(7)))
		n := len(row.takes) + ticksOf(row.x.Op) + len(row.gives)
		d := newData(1, 2, 3, 4, 1, 1, 1, 1)
		// A call is one of the routine without instructions.
		y, ticks, result := runBoth(t, []impl.Routine{{}, {Code: code}}, 1, d, 100)
		if result != 0 || ticks != n+6 || y.Blocks[7] != (impl.Fb{Kind: 1, On: true, Start: 100 + n + 2}) {
			t.Errorf("%v takes %d ticks, %d, and leaves %v, want %d ticks", code, ticks, result, y.Blocks[7], n+6)
		}
		// The same effect as that of the operations one by one.
		want, stack := d, []int(nil)
		for i, x := range before {
			if x.Op != 26 {
				// The operations that push take one tick each.
				want, stack, _ = impl.ApplyOp(want, x, stack, 100+min(i, len(row.takes)))
			}
		}
		wantRun(t, []impl.Routine{{}, {Code: before}}, d, 100, n, want)
	}
}

// The effect of an operation of several ticks takes place at the first of them.
func TestRunAtTheFirstTick(t *testing.T) {
	wantTimes(t, false, []string{"@0"}, 6, 0)
	wantTimes(t, false, []string{"cut; @0; @1; peek 0; poke 0; @2"}, 23, 1, 7, 17)
	wantTimes(t, false, []string{"push 6; push 2; div; store 0; @0; push 1; push 2; mul; store 0; @1"}, 24, 7, 18)
	// A second step of the same timer counts the ticks between both first ticks.
	d := newData(1)
	want := changed(d, func(d *impl.Data) {
		d.Blocks[0] = impl.Fb{Kind: 1, On: true, Start: 42, Count: 6}
		d.Globals[3] = 6
	})
	wantRun(t, routinesOf("flag 1; push 1000; block 0; out 7; flag 1; push 1000; block 0; out 7; value 0; store 3"), d, 40, 14, want)
	want.Outs[7] = true
	wantRun(t, routinesOf("flag 1; push 6; block 0; out 7; flag 1; push 6; block 0; out 7; value 0; store 3"), d, 40, 14, want)
}

// An else takes its tick only behind the first branch, an end only behind the branch directly before it.
func TestRunOfIfs(t *testing.T) {
	for _, v := range []struct {
		text  string
		pin   bool
		ticks int
		begin []int
	}{
		{"in 0; if; end; @0", true, 9, []int{3}},
		{"in 0; if; end; @0", false, 8, []int{2}},
		{"in 0; if; else; end; @0", true, 9, []int{3}},
		{"in 0; if; else; end; @0", false, 9, []int{3}},
		{"in 0; if; @0; end; @1", true, 15, []int{2, 9}},
		{"in 0; if; @0; end; @1", false, 8, []int{-1, 2}},
		{"in 0; if; @0; else; end; @1", true, 15, []int{2, 9}},
		{"in 0; if; @0; else; end; @1", false, 9, []int{-1, 3}},
		{"in 0; if; else; @0; end; @1", true, 9, []int{-1, 3}},
		{"in 0; if; else; @0; end; @1", false, 15, []int{2, 9}},
		{"in 0; if; cut; cut; @0; else; @1; end; @2", true, 17, []int{4, -1, 11}},
		{"in 0; if; cut; cut; @0; else; @1; end; @2", false, 15, []int{-1, 2, 9}},
		{"in 0; not; if; @0; else; @1; end; @2", true, 16, []int{-1, 3, 10}},
		// ifs in ifs
		{"in 0; if; in 0; if; @0; end; @1; else; @2; end; @3", true, 24, []int{4, 11, -1, 18}},
		{"in 0; if; in 0; if; @0; end; @1; else; @2; end; @3", false, 15, []int{-1, -1, 2, 9}},
		{"in 0; if; in 0; not; if; @0; end; @1; else; @2; end; @3", true, 18, []int{-1, 5, -1, 12}},
		{"in 0; if; else; in 0; if; @0; else; @1; end; end; @2", false, 18, []int{-1, 4, 12}},
		{"in 0; if; else; in 0; if; @0; else; @1; end; end; @2", true, 9, []int{-1, -1, 3}},
		{"in 0; if; in 0; if; in 0; if; in 0; if; @0; end; end; end; end; @1", true, 24, []int{8, 18}},
		{"in 0; if; in 0; if; in 0; if; in 0; if; @0; end; end; end; end; @1", false, 8, []int{-1, 2}},
		{"in 0; if; end; in 0; if; else; end; in 0; not; if; end; @0", true, 15, []int{9}},
		{"in 0; if; end; in 0; if; else; end; in 0; not; if; end; @0", false, 15, []int{9}},
	} {
		wantTimes(t, v.pin, []string{v.text}, v.ticks, v.begin...)
	}
}

// The condition is what is on the stack when the if is reached, not an input.
func TestRunOfConditions(t *testing.T) {
	for n := -2; n <= 2; n++ {
		d := newData()
		d.Globals[0] = n
		want := changed(d, func(d *impl.Data) { d.Globals[1] = 20 - 10*asBit(n < 0) })
		// The operand of the if is on top of other elements.
		wantRun(t, routinesOf("push 3; flag 0; load 0; push 0; less; if; push 10; store 1; else; push 20; store 1; end; out 0; store 2"),
			d, 0, 11, changed(want, func(d *impl.Data) { d.Globals[2] = 3 }))
	}
}

// Each iteration takes the tick of the end; the timer tells when the last ones took place.
func TestRunOfRepeats(t *testing.T) {
	wantTimes(t, false, []string{"repeat 1; @0; end; @1"}, 14, 1, 8)
	wantTimes(t, false, []string{"repeat 3; @0; end; @1"}, 28, 1, 22)
	wantTimes(t, false, []string{"@0; repeat 20; end; @1; repeat 20; cut; end; @2"}, 80, 0, 27, 74)
	wantTimes(t, false, []string{"repeat 2; repeat 3; cut; end; end; @0"}, 23, 17)
	wantTimes(t, false, []string{"repeat 2; cut; repeat 3; cut; end; @0; end; @1"}, 37, 9, 31)
	wantTimes(t, false, []string{"repeat 3; in 0; if; cut; end; end; @0"}, 16, 10)
	wantTimes(t, true, []string{"repeat 3; in 0; if; cut; end; end; @0"}, 22, 16)
	wantTimes(t, true, []string{"in 0; if; repeat 2; cut; end; else; @0; end; @1"}, 14, -1, 8)
	history := "flag 1; push 1000; block 0; out 0; load 1; store 2; load 0; store 1; value 0; store 0"
	for n := 3; n <= 20; n++ {
		d := newData(1)
		// An iteration takes 13 ticks, its end included.
		want := changed(d, func(d *impl.Data) {
			d.Globals[0], d.Globals[1], d.Globals[2] = 13*(n-1), 13*(n-2), 13*(n-3)
			d.Blocks[0] = impl.Fb{Kind: 1, On: true, Start: 8, Count: 13 * (n - 1)}
		})
		wantRun(t, routinesOf(fmt.Sprintf("repeat %d; %s; end", n, history)), d, 5, 1+13*n, want)
	}
}

// Every number of iterations, and of those of a repeat inside.
func TestRunCountsIterations(t *testing.T) {
	for a := 1; a <= 20; a++ {
		for b := 1; b <= 20; b++ {
			d := newData()
			want := changed(d, func(d *impl.Data) { d.Globals[0] = a * b })
			wantRun(t, routinesOf(fmt.Sprintf("repeat %d; repeat %d; load 0; push 1; add; store 0; end; end", a, b)), d, 0, 1+a*(2+5*b), want)
		}
	}
	d := newData()
	want := changed(d, func(d *impl.Data) { d.Globals[0] = 54 })
	wantRun(t, routinesOf("repeat 2; repeat 3; repeat 3; repeat 3; load 0; push 1; add; store 0; end; end; end; end"), d, 0, 1+2*(2+3*(2+3*(2+3*5))), want)
}

func TestRunOfCalls(t *testing.T) {
	wantTimes(t, false, []string{"@0", "call 0; @1"}, 14, 2, 8)
	wantTimes(t, false, []string{"cut; cut; cut", "call 0; @0; call 0; @1"}, 22, 5, 16)
	wantTimes(t, false, []string{"@0", "cut; call 0; @1", "@2; call 1; @3"}, 29, 11, 17, 0, 23)
	wantTimes(t, false, []string{"@0", "@1", "call 1", "call 0", "call 3; call 2"}, 20, 4, 14)
	wantTimes(t, false, []string{"cut", "repeat 3; call 0; end; @0"}, 19, 13)
	wantTimes(t, true, []string{"in 0; if; cut; else; cut; cut; end; @0", "in 0; if; call 0; else; @1; end; @2"}, 21, 8, -1, 15)
	wantTimes(t, false, []string{"in 0; if; cut; else; cut; cut; end; @0", "in 0; if; call 0; else; @1; end; @2"}, 15, -1, 2, 9)
	wantTimes(t, false, []string{"cut", "call 0", "call 1", "call 2", "call 3", "call 4; @0"}, 17, 11)
}

// Only the routine itself and what it calls are executed.
func TestRunOfOneRoutine(t *testing.T) {
	list := routinesOf("push 5; store 0", "push 6; store 1; push 1; store 4", "call 0; push 7; store 2", "push 8; store 3", "call 1; call 3")
	d := newData()
	for k, v := range []struct {
		ticks int
		want  []int
	}{{2, []int{5, 0, 0, 0, 0}}, {4, []int{0, 6, 0, 0, 1}}, {6, []int{5, 0, 7, 0, 0}}, {2, []int{0, 0, 0, 8, 0}}, {10, []int{0, 6, 0, 8, 1}}} {
		y, n, code := runBoth(t, list, k, d, 0)
		if code != 0 || n != v.ticks || !slices.Equal(y.Globals[:5], v.want) {
			t.Errorf("routine %d takes %d ticks, %d, and leaves %v, want %d, %v", k, n, code, y.Globals[:5], v.ticks, v.want)
		}
	}
}

// The stack of each routine may be full, also while another routine has filled its own.
func TestRunWithFullStacks(t *testing.T) {
	fill := strings.Repeat("push 1;", 8)
	drain := "add; add; add; add; add; add; add; store %d;"
	var texts []string
	want := newData()
	ticks := 0
	for k := range 6 {
		text := fill
		if k > 0 {
			text += fmt.Sprintf("call %d;", k-1)
			ticks += 2
		}
		texts = append(texts, text+fmt.Sprintf(drain, k))
		ticks += 16
		want.Globals[k] = 8
	}
	wantRun(t, routinesOf(texts...), newData(), 0, ticks, want)
	// Elements below an if, a repeat and a call are still there behind them.
	d := newData()
	d.Latched[0] = true
	below := changed(d, func(d *impl.Data) {
		d.Globals[0], d.Globals[1], d.Globals[2], d.Globals[3], d.Globals[9] = 4, 3, 2, 1, 6
	})
	wantRun(t, routinesOf("load 9; push 1; add; store 9", "push 1; push 2; repeat 2; in 0; if; repeat 3; call 0; end; end; end; push 3; push 4; in 0; if; else; call 0; end; store 0; store 1; store 2; store 3"),
		d, 0, 64, below)
}

// The effects of a routine are those that each operation has on what the ones before it left.
func TestRunOfPrograms(t *testing.T) {
	list := routinesOf(
		"load 0; push 1; add; store 0",
		"call 0; in 1; poke 1; peek 2; out 2",
		"load 0; push 2; less; if; push 2147483647; load 0; add; store 1; push 7; push 0; div; store 2; else; call 1; call 1; end; in 3; in 4; block 0; out 5; in 3; block 1; out 6")
	d := newData(4, 3)
	d.Latched, d.Pins = []bool{true, true, false, true, true, true, true, true}, []bool{true, false, true, false, false, true, true, true}
	d.Globals[0], d.Globals[2], d.Wrong = 1, 5, 8
	first := changed(d, func(d *impl.Data) {
		d.Globals[1], d.Globals[2], d.Wrong = 0, 0, 10
		d.Outs[5], d.Outs[6] = true, true
		d.Blocks[0].On, d.Blocks[1].On = true, true
	})
	wantRun(t, list, d, 0, 27, first)
	d.Globals[0] = 2
	second := changed(d, func(d *impl.Data) {
		d.Globals[0] = 4
		d.Wires[1], d.Outs[1], d.Outs[2], d.Outs[5], d.Outs[6] = true, true, true, true, true
		d.Blocks[0].On, d.Blocks[1].On = true, true
	})
	wantRun(t, list, d, 0, 44, second)
}

// The time that an operation sees is limited; the number of ticks is not.
func TestRunNearTheLargestTime(t *testing.T) {
	list := routinesOf(withClocks("@0; cut; @1; peek 0; out 0; @2; repeat 20; @3; end; @4"))
	for before := range 250 {
		now := largestValue - before
		d := newData(eightTimers()...)
		y, n, code := runBoth(t, list, 0, d, now)
		if code != 0 || n != 169 {
			t.Fatalf("at %d it takes %d ticks, %d", now, n, code)
		}
		for i, begin := range []int{0, 7, 16, 23, 163} {
			want := impl.Fb{Kind: 1, On: true, Start: min(now+begin+2, largestValue)}
			if i == 3 {
				want.Count = min(now+begin+2+19*7, largestValue) - want.Start
			}
			if y.Blocks[i] != want {
				t.Errorf("at %d block %d is %v, want %v", now, i, y.Blocks[i], want)
			}
		}
	}
	// A timer that was started before counts up to the largest time.
	d := newData(1)
	d.Blocks[0] = impl.Fb{Kind: 1, On: true, Start: largestValue - 9}
	want := changed(d, func(d *impl.Data) { d.Blocks[0].Count = 9 })
	wantRun(t, routinesOf("cut; flag 1; push 10; block 0; out 0"), d, largestValue-1, 7, want)
	wantRun(t, routinesOf("cut; flag 1; push 10; block 0; out 0"), d, largestValue, 7, want)
}
