package tests

import (
	"testing"

	"loop.example/g00684/impl"
)

// A moment is one step of a history: the operands, and the time.
type moment struct {
	a, b   bool
	n, now int
}

// stepOf executes a step that must succeed and leave a valid block of the same kind.
func stepOf(t *testing.T, f impl.Fb, m moment) (impl.Fb, bool) {
	t.Helper()
	x, result, code := impl.StepBlock(f, m.a, m.b, m.n, m.now)
	if code != impl.OK || !impl.FbOK(x) || x.Kind != f.Kind {
		t.Fatalf("StepBlock(%v, %v) = %v, %t, %d", f, m, x, result, code)
	}
	return x, result
}

// A step is a moment with the result and the value that it must have.
type step struct {
	moment
	want  bool
	value int
}

// wantSteps executes steps one after the other and returns the last state.
func wantSteps(t *testing.T, f impl.Fb, list ...step) impl.Fb {
	t.Helper()
	for i, s := range list {
		x, result := stepOf(t, f, s.moment)
		value, code := impl.ValueOf(x)
		if result != s.want || value != s.value || code != impl.OK {
			t.Errorf("step %d of %v with %v = %v, %t, want %t, value %d", i, f, s.moment, x, result, s.want, s.value)
		}
		f = x
	}
	return f
}

func newFb(t *testing.T, kind int) impl.Fb {
	t.Helper()
	f, code := impl.NewFb(kind)
	if code != impl.OK {
		t.Fatal("NewFb", kind, code)
	}
	return f
}

// timed is a step of a timer, counted one of a counter.
func timed(a bool, n, now int, want bool, value int) step {
	return step{moment{a: a, n: n, now: now}, want, value}
}

func counted(a, b bool, n int, want bool, value int) step {
	return step{moment{a: a, b: b, n: n}, want, value}
}

func TestTimer(t *testing.T) {
	f := wantSteps(t, newFb(t, 1),
		timed(false, 5, 1, false, 0),
		timed(true, 5, 10, false, 0),
		timed(true, 5, 10, false, 0),
		timed(true, 5, 14, false, 4),
		timed(true, 5, 15, true, 5),
		timed(true, 5, 16, true, 5),
		timed(true, 5, 1000, true, 5),
		timed(true, 1000, 1009, false, 999),
		timed(true, 1000, 1010, true, 1000),
		timed(false, 5, 1011, false, 0),
		timed(true, 5, 1012, false, 0),
		timed(true, 5, 1016, false, 4),
		timed(false, 5, 1017, false, 0),
		timed(false, 5, 1018, false, 0),
		timed(true, 1, 1019, false, 0))
	if want := (impl.Fb{Kind: 1, On: true, Start: 1019}); f != want {
		t.Error(f, "want", want)
	}
}

// With a preset time of 0 or a negative one the timer follows its input, at once and in both directions.
func TestTimerWithoutPresetTime(t *testing.T) {
	for _, n := range []int{0, -1, -3, smallestValue + 1, smallestValue} {
		wantSteps(t, newFb(t, 1),
			timed(false, n, 0, false, 0),
			timed(true, n, 0, true, 0),
			timed(true, n, 0, true, 0),
			timed(true, n, 1, true, 0),
			timed(true, n, largestValue, true, 0),
			timed(false, n, largestValue, false, 0),
			timed(false, n, largestValue, false, 0),
			timed(true, n, largestValue, true, 0))
	}
}

func TestTimerWithGreatestPresetTime(t *testing.T) {
	wantSteps(t, newFb(t, 1),
		timed(true, largestValue, 0, false, 0),
		timed(true, largestValue, 1, false, 1),
		timed(true, largestValue, largestValue-1, false, largestValue-1),
		timed(true, largestValue, largestValue, true, largestValue),
		timed(false, largestValue, largestValue, false, 0))
	wantSteps(t, newFb(t, 1),
		timed(true, largestValue, 1, false, 0),
		timed(true, largestValue, largestValue, false, largestValue-1),
		timed(true, largestValue-1, largestValue, true, largestValue-1),
		timed(true, largestValue, largestValue, false, largestValue-1))
}

// The time for which the input has been true does not depend on the presets of the steps before.
func TestTimerWithOtherPresetTimes(t *testing.T) {
	wantSteps(t, newFb(t, 1),
		timed(true, 0, 100, true, 0),
		timed(true, 10, 105, false, 5),
		timed(true, 5, 105, true, 5),
		timed(true, -7, 106, true, 0),
		timed(true, 8, 107, false, 7),
		timed(true, smallestValue, 107, true, 0),
		timed(true, largestValue, 107, false, 7),
		timed(true, 7, 107, true, 7))
}

// A time before the start counts as the start, and does not move it.
func TestTimerWithEarlierTimes(t *testing.T) {
	f := wantSteps(t, newFb(t, 1),
		timed(true, 5, 100, false, 0),
		timed(true, 5, 99, false, 0),
		timed(true, 0, 99, true, 0),
		timed(true, -1, 0, true, 0),
		timed(true, 1, 0, false, 0),
		timed(true, 5, 104, false, 4),
		timed(true, 5, 102, false, 2),
		timed(true, 5, 105, true, 5))
	if f.Start != 100 {
		t.Error("the start moved to", f.Start)
	}
	late := impl.Fb{Kind: 1, On: true, Start: largestValue, Count: largestValue}
	wantSteps(t, late, timed(true, 1, 0, false, 0), timed(true, 0, 0, true, 0), timed(true, smallestValue, 0, true, 0), timed(true, largestValue, 0, false, 0))
}

func TestCounter(t *testing.T) {
	f := wantSteps(t, newFb(t, 2),
		counted(false, false, 2, false, 0),
		counted(true, false, 2, false, 1),
		counted(true, false, 2, false, 1),
		counted(false, false, 2, false, 1),
		counted(false, false, 1, true, 1),
		counted(true, false, 2, true, 2),
		counted(true, false, 3, false, 2),
		counted(false, false, 3, false, 2),
		counted(true, false, 2, true, 3),
		counted(false, true, 2, false, 0),
		counted(true, false, 1, true, 1))
	if want := (impl.Fb{Kind: 2, On: true, Count: 1}); f != want {
		t.Error(f, "want", want)
	}
}

// An edge while b is true is not counted, neither at once nor when b is false again.
func TestCounterSetToZero(t *testing.T) {
	wantSteps(t, impl.Fb{Kind: 2, Count: 6},
		counted(true, true, 1, false, 0),
		counted(true, false, 1, false, 0),
		counted(false, false, 1, false, 0),
		counted(true, false, 1, true, 1),
		counted(true, true, 1, false, 0),
		counted(false, true, 1, false, 0),
		counted(true, true, 1, false, 0),
		counted(false, true, 1, false, 0),
		counted(true, false, 1, true, 1))
}

func TestCounterByPreset(t *testing.T) {
	for _, n := range []int{0, -1, smallestValue} {
		wantSteps(t, newFb(t, 2), counted(false, false, n, true, 0), counted(false, true, n, true, 0), counted(true, true, n, true, 0), counted(false, false, n, true, 0), counted(true, false, n, true, 1))
	}
	wantSteps(t, impl.Fb{Kind: 2, Count: largestValue - 2}, counted(true, false, largestValue, false, largestValue-1), counted(true, false, largestValue-1, true, largestValue-1))
}

func TestCounterKeepsMaxWide(t *testing.T) {
	f := wantSteps(t, impl.Fb{Kind: 2, Count: largestValue - 1},
		counted(true, false, largestValue, true, largestValue),
		counted(false, false, largestValue, true, largestValue),
		counted(true, false, largestValue, true, largestValue),
		counted(false, false, 1, true, largestValue),
		counted(true, false, largestValue, true, largestValue))
	if want := (impl.Fb{Kind: 2, On: true, Count: largestValue}); f != want {
		t.Error(f, "want", want)
	}
	wantSteps(t, f, counted(true, true, largestValue, false, 0))
}

func TestEdge(t *testing.T) {
	f := newFb(t, 3)
	for i, v := range []struct{ a, want bool }{{false, false}, {true, true}, {true, false}, {true, false}, {false, false}, {true, true}, {false, false}, {false, false}, {true, true}} {
		x, result := stepOf(t, f, moment{a: v.a})
		if result != v.want || x != (impl.Fb{Kind: 3, On: v.a}) {
			t.Errorf("step %d of %v = %v, %t", i, f, x, result)
		}
		f = x
	}
}

func TestLatch(t *testing.T) {
	f := newFb(t, 4)
	for i, v := range []struct{ a, b, want bool }{{false, false, false}, {false, true, false}, {true, false, true}, {true, false, true}, {false, false, true}, {false, false, true}, {false, true, false}, {false, false, false}, {true, true, true}, {false, false, true}, {true, true, true}, {false, true, false}} {
		x, result := stepOf(t, f, moment{a: v.a, b: v.b})
		if result != v.want || x != (impl.Fb{Kind: 4, On: v.want}) {
			t.Errorf("step %d of %v = %v, %t", i, f, x, result)
		}
		f = x
	}
}

// stepByRule is the reference for one step from any state: chapter 4, kind by kind.
func stepByRule(f impl.Fb, m moment) (impl.Fb, bool) {
	switch f.Kind {
	case 1:
		if !m.a {
			return impl.Fb{Kind: 1}, false
		}
		start := m.now
		if f.On {
			start = f.Start
		}
		count := m.now - start
		if count > m.n {
			count = m.n
		}
		if count < 0 {
			count = 0
		}
		return impl.Fb{Kind: 1, On: true, Start: start, Count: count}, count >= m.n
	case 2:
		count := f.Count
		if m.a && !f.On && count < largestValue {
			count++
		}
		if m.b {
			count = 0
		}
		return impl.Fb{Kind: 2, On: m.a, Count: count}, count >= m.n
	case 3:
		return impl.Fb{Kind: 3, On: m.a}, m.a && !f.On
	}
	on := f.On
	if m.b {
		on = false
	}
	if m.a {
		on = true
	}
	return impl.Fb{Kind: 4, On: on}, on
}

// momentsAround holds all booleans with presets and times at and around every limit.
func momentsAround() []moment {
	var list []moment
	for _, n := range []int{smallestValue, smallestValue + 1, -5, -1, 0, 1, 2, 3, 4, 5, 6, largestValue - 1, largestValue} {
		for _, now := range []int{0, 1, 2, 3, 5, 7, largestValue - 1, largestValue} {
			for _, a := range []bool{false, true} {
				list = append(list, moment{a, false, n, now}, moment{a, true, n, now})
			}
		}
	}
	return list
}

func TestStepBlockFromEveryState(t *testing.T) {
	list := momentsAround()
	for _, f := range validFbs() {
		for _, m := range list {
			want, wantResult := stepByRule(f, m)
			if x, result := stepOf(t, f, m); x != want || result != wantResult {
				t.Errorf("StepBlock(%v, %v) = %v, %t, want %v, %t", f, m, x, result, want, wantResult)
			}
		}
	}
}

// What a kind does not use is replaced by 0 or false, which must not change anything.
func TestStepBlockIgnoresOtherOperands(t *testing.T) {
	list := momentsAround()
	for _, f := range validFbs() {
		for _, m := range list {
			less := m
			if f.Kind == 1 || f.Kind == 3 {
				less.b = false
			}
			if f.Kind == 3 || f.Kind == 4 {
				less.n = 0
			}
			if f.Kind != 1 {
				less.now = 0
			}
			x, result := stepOf(t, f, m)
			if y, other := stepOf(t, f, less); x != y || result != other {
				t.Errorf("StepBlock(%v, %v) = %v, %t, with %v it is %v, %t", f, m, x, result, less, y, other)
			}
		}
	}
}

// histories yields all sequences of six pairs of booleans. The times between the steps differ, and are 0 too.
func histories(yield func([]moment) bool) {
	gaps := []int{1, 0, 3, 1, 2, 7}
	for bits := range 1 << (2 * len(gaps)) {
		list := make([]moment, len(gaps))
		now := 10
		for i, gap := range gaps {
			now += gap
			list[i] = moment{a: bits>>(2*i)&1 == 1, b: bits>>(2*i+1)&1 == 1, now: now}
		}
		if !yield(list) {
			return
		}
	}
}

func presets() []int {
	return []int{smallestValue, -1, 0, 1, 2, 3, 4, 5, 6, 13, 14, largestValue}
}

// checkHistory executes a history from a new block; want computes each result and value from all moments up to it, and no state.
func checkHistory(t *testing.T, kind int, list []moment, want func([]moment) (bool, int)) {
	t.Helper()
	f := newFb(t, kind)
	for i, m := range list {
		x, result := stepOf(t, f, m)
		value, _ := impl.ValueOf(x)
		if wantResult, wantValue := want(list[:i+1]); result != wantResult || value != wantValue {
			t.Errorf("kind %d after %v: %t, value %d, want %t, value %d", kind, list[:i+1], result, value, wantResult, wantValue)
		}
		f = x
	}
}

// setPresets sets presets of n, some of n - 2 or n + 2: each result depends on the preset of its own step only.
func setPresets(list []moment, n int) {
	for i, change := range []int{0, -2, 0, 0, 0, 2} {
		list[i].n = n
		if isValue(n + change) {
			list[i].n += change
		}
	}
}

// P4: the output of a timer is true exactly if its input has been true for at least its preset time.
func timerByHistory(list []moment) (bool, int) {
	last := list[len(list)-1]
	if !last.a {
		return false, 0
	}
	since := last.now
	for i := len(list) - 1; i >= 0 && list[i].a; i-- {
		since = list[i].now
	}
	elapsed := last.now - since
	return elapsed >= last.n, max(0, min(elapsed, last.n))
}

// P4: a counter counts rising edges, here those since b was last true.
func counterByHistory(list []moment) (bool, int) {
	count := 0
	for i := len(list) - 1; i >= 0 && !list[i].b; i-- {
		if list[i].a && (i == 0 || !list[i-1].a) {
			count++
		}
	}
	return count >= list[len(list)-1].n, count
}

// P4: an edge detector reports each rising edge once.
func edgeByHistory(list []moment) (bool, int) {
	i := len(list) - 1
	return list[i].a && (i == 0 || !list[i-1].a), 0
}

// P4: a latch keeps its state until it is reset; the last moment with a true operand tells which it is.
func latchByHistory(list []moment) (bool, int) {
	for i := len(list) - 1; i >= 0; i-- {
		if list[i].a || list[i].b {
			return list[i].a, 0
		}
	}
	return false, 0
}

func TestFbsByHistory(t *testing.T) {
	for list := range histories {
		for _, n := range presets() {
			setPresets(list, n)
			checkHistory(t, 1, list, timerByHistory)
			checkHistory(t, 2, list, counterByHistory)
		}
		checkHistory(t, 3, list, edgeByHistory)
		checkHistory(t, 4, list, latchByHistory)
	}
}

// As many reports as rising edges, in every history.
func TestEdgesAreReportedOnce(t *testing.T) {
	for list := range histories {
		f := newFb(t, 3)
		reports, edges, before := 0, 0, false
		for _, m := range list {
			x, result := stepOf(t, f, m)
			if result {
				reports++
			}
			if m.a && !before {
				edges++
			}
			f, before = x, m.a
		}
		if reports != edges {
			t.Errorf("%d reports of %d edges in %v", reports, edges, list)
		}
	}
}
