package tests

import (
	"math/rand"
	"slices"
	"testing"

	"loop.example/g00684/impl"
)

// costsOf is CostsOf of routines that must be accepted.
func costsOf(t *testing.T, list []impl.Routine, kinds []int) []impl.Summary {
	t.Helper()
	sums, code := impl.CostsOf(list, kinds)
	if code != 0 || len(sums) != len(list) {
		t.Fatalf("CostsOf(%v, %v) = %v, %d", list, kinds, sums, code)
	}
	return sums
}

// wantCosts takes a summary for each routine.
func wantCosts(t *testing.T, list []impl.Routine, want ...impl.Summary) {
	t.Helper()
	if got := costsOf(t, list, allKinds()); !slices.Equal(got, want) {
		t.Errorf("the costs of %v are %v, want %v", list, got, want)
	}
}

func wantCost(t *testing.T, text string, want impl.Summary) {
	t.Helper()
	wantCosts(t, routinesOf(text), want)
}

// ticksOf is the time of an operation.
func ticksOf(op int) int {
	return opTable()[op-1].ticks
}

func TestCostsOfNothing(t *testing.T) {
	for _, list := range [][]impl.Routine{nil, {}} {
		if got := costsOf(t, list, nil); len(got) != 0 {
			t.Error("no routines have the costs", got)
		}
	}
	for n := 1; n <= 6; n++ {
		wantCosts(t, make([]impl.Routine, n), slices.Repeat([]impl.Summary{nothing()}, n)...)
	}
	wantCosts(t, routinesOf("", "call 0", "", "call 2; call 1"), nothing(), summary(2, 2, -1, -1, -1), nothing(), summary(6, 6, -1, -1, -1))
}

// The operands are pushed and the result is popped by instructions of one tick each.
func TestTicksOfEveryOp(t *testing.T) {
	for _, row := range plainRows() {
		code := slices.Concat(pushing(row.takes), []impl.Instr{row.x}, popping(row.gives))
		n := len(row.takes) + ticksOf(row.x.Op) + len(row.gives)
		want := summary(n, n, -1, -1, -1)
		if row.x.Op == 25 {
			want = summary(1, -1, 1, 0, -1)
		}
		// A call is one of the routine without instructions.
		wantCosts(t, []impl.Routine{{}, {Code: code}}, nothing(), want)
	}
	wantCost(t, "in 0; if; end", summary(3, 3, -1, -1, -1))
	wantCost(t, "in 0; if; else; end", summary(3, 3, -1, -1, -1))
	wantCost(t, "repeat 1; end", summary(2, 2, -1, -1, -1))
}

func TestCostsOfPlainCode(t *testing.T) {
	wantCost(t, "push 1; store 0", summary(2, 2, -1, -1, -1))
	wantCost(t, "peek 0; poke 0", summary(4, 4, -1, -1, -1))
	wantCost(t, "push 6; push 2; div; load 1; mul; store 0", summary(10, 10, -1, -1, -1))
	wantCost(t, "in 0; value 0; load 3; sel; store 0; in 1; push 5; block 0; not; out 3", summary(13, 13, -1, -1, -1))
}

func TestCostsOfCuts(t *testing.T) {
	wantCost(t, "cut", summary(1, -1, 1, 0, -1))
	wantCost(t, "cut; cut", summary(2, -1, 1, 0, 1))
	wantCost(t, "load 0; store 0; cut; load 1; store 1", summary(5, -1, 3, 2, -1))
	wantCost(t, "push 1; cut; push 2; push 3; cut; store 0; store 1; store 2", summary(8, -1, 2, 3, 3))
	wantCost(t, "cut; load 0; load 0; mul; store 0; cut; cut", summary(8, -1, 1, 0, 6))
	wantCost(t, "cut; cut; load 0; load 0; mul; store 0; cut", summary(8, -1, 1, 0, 6))
}

func TestCostsOfIfs(t *testing.T) {
	wantCost(t, "in 0; if; load 0; store 0; else; end", summary(5, 5, -1, -1, -1))
	wantCost(t, "in 0; if; else; load 0; store 0; end", summary(5, 5, -1, -1, -1))
	wantCost(t, "in 0; if; load 0; store 0; end", summary(5, 5, -1, -1, -1))
	// a cut in one branch, which may be that of nothing
	wantCost(t, "in 0; if; cut; end", summary(4, 2, 3, 1, -1))
	wantCost(t, "load 0; in 0; if; cut; end; load 1; add; store 0", summary(8, 6, 4, 4, -1))
	wantCost(t, "in 0; if; load 0; store 0; else; cut; end", summary(5, 5, 3, 1, -1))
	wantCost(t, "in 0; if; cut; else; load 0; store 0; end", summary(5, 5, 3, 1, -1))
	// exactly one cut in every execution
	wantCost(t, "in 0; if; cut; else; load 0; store 0; cut; end", summary(6, -1, 5, 1, -1))
	wantCost(t, "in 0; if; cut; else; cut; load 0; store 0; end", summary(6, -1, 3, 3, -1))
	// a section between cuts in one branch, and over the borders of branches
	wantCost(t, "in 0; if; cut; load 0; store 0; cut; end", summary(7, 2, 3, 1, 3))
	wantCost(t, "cut; in 0; if; cut; else; load 0; store 0; end; cut", summary(7, -1, 1, 0, 6))
	wantCost(t, "cut; in 0; if; cut; else; cut; load 0; store 0; end; cut", summary(8, -1, 1, 0, 4))
	// ifs in the branches of an if
	wantCost(t, "in 0; if; in 1; if; cut; end; else; in 2; if; else; cut; end; end", summary(7, 6, 5, 2, -1))
	wantCost(t, "in 0; if; in 1; if; cut; else; cut; end; else; load 0; store 0; end", summary(7, 5, 5, 2, -1))
}

func TestCostsOfRepeats(t *testing.T) {
	wantCost(t, "repeat 20; load 0; store 0; end", summary(61, 61, -1, -1, -1))
	wantCost(t, "repeat 1; cut; end", summary(3, -1, 2, 1, -1))
	wantCost(t, "repeat 2; cut; end", summary(5, -1, 2, 1, 2))
	wantCost(t, "repeat 20; cut; end", summary(41, -1, 2, 1, 2))
	wantCost(t, "repeat 1; load 0; store 0; cut; load 1; store 1; end", summary(7, -1, 4, 3, -1))
	wantCost(t, "repeat 3; load 0; store 0; cut; load 1; store 1; end", summary(19, -1, 4, 3, 6))
	// repeats in a repeat
	wantCost(t, "repeat 2; load 0; store 0; repeat 3; cut; end; end", summary(21, -1, 5, 2, 6))
	wantCost(t, "repeat 2; repeat 3; load 0; store 0; end; cut; end", summary(25, -1, 12, 1, 12))
	wantCost(t, "repeat 20; repeat 20; repeat 20; repeat 20; end; end; end; end", summary(176841, 176841, -1, -1, -1))
	wantCost(t, "repeat 20; repeat 20; repeat 20; repeat 20; cut; end; end; end; end", summary(336841, -1, 5, 4, 8))
}

func TestCostsOfIfsAndRepeats(t *testing.T) {
	wantCost(t, "repeat 1; in 0; if; cut; end; end", summary(6, 4, 4, 2, -1))
	wantCost(t, "repeat 2; in 0; if; cut; end; end", summary(11, 7, 7, 5, 5))
	wantCost(t, "repeat 3; in 0; if; cut; end; end", summary(16, 10, 10, 8, 8))
	wantCost(t, "repeat 20; in 0; if; cut; end; end", summary(101, 61, 61, 59, 59))
	wantCost(t, "repeat 2; in 0; if; cut; else; cut; load 0; store 0; end; end", summary(15, -1, 4, 4, 7))
	wantCost(t, "in 0; if; repeat 2; cut; end; end", summary(8, 2, 4, 2, 2))
	wantCost(t, "in 0; if; repeat 2; cut; end; else; load 1; store 1; end", summary(8, 5, 4, 2, 2))
	wantCost(t, "in 0; if; repeat 2; in 1; if; cut; end; end; else; cut; end", summary(14, 10, 9, 6, 5))
}

func TestCostsOfCalls(t *testing.T) {
	wantCosts(t, routinesOf("load 0; store 0", "call 0", "load 1; call 1; call 0; store 1"),
		summary(2, 2, -1, -1, -1), summary(4, 4, -1, -1, -1), summary(12, 12, -1, -1, -1))
	wantCosts(t, routinesOf("cut", "call 0; call 0", "repeat 2; call 1; load 0; store 0; end", "in 0; if; call 2; else; call 0; call 1; end"),
		summary(1, -1, 1, 0, -1), summary(6, -1, 3, 0, 3), summary(23, -1, 6, 3, 8), summary(28, -1, 10, 4, 8))
	wantCosts(t, routinesOf("in 0; if; cut; end", "", "call 0", "call 1", "call 2", "call 4; call 0; call 3"),
		summary(4, 2, 3, 1, -1), nothing(), summary(6, 4, 5, 1, -1), summary(2, 2, -1, -1, -1), summary(8, 6, 7, 1, -1), summary(20, 16, 13, 9, 6))
}

// Routines that would take longer than the largest value.
func TestCostsAtTheLargestValue(t *testing.T) {
	const most = 2147483647
	wantCosts(t, routinesOf(
		"repeat 20; repeat 20; repeat 20; repeat 20; load 0; store 0; end; end; end; end",
		"repeat 20; repeat 20; repeat 20; repeat 20; call 0; end; end; end; end",
		"call 1; cut; call 1", "call 2; call 2; call 0",
		"in 0; if; call 1; else; repeat 20; repeat 20; cut; call 1; end; end; end",
		"repeat 20; call 4; end"),
		summary(496841, 496841, -1, -1, -1), summary(most, most, -1, -1, -1),
		summary(most, -1, most, most, -1), summary(most, -1, most, most, most),
		summary(most, most, 5, most, most), summary(most, most, most, most, most))
}

func TestCostsOfErrors(t *testing.T) {
	long := make([]int, longestList+1)
	for _, v := range []struct {
		list  []impl.Routine
		kinds []int
		want  int
	}{
		{make([]impl.Routine, longestList+1), nil, impl.ErrLong},
		{nil, long, impl.ErrLong},
		{[]impl.Routine{{Code: []impl.Instr{{}}}}, long, impl.ErrLong},
		{nil, []int{0}, impl.ErrBad},
		{nil, []int{5}, impl.ErrBad},
		{nil, []int{1, 1, 1, 1, 1, 1, 1, 1, 1}, impl.ErrBad},
		{make([]impl.Routine, 7), nil, impl.ErrBad},
		{make([]impl.Routine, longestList), nil, impl.ErrBad},
		{[]impl.Routine{{Code: slices.Repeat(parse("cut"), 41)}}, nil, impl.ErrBad},
		{[]impl.Routine{{Code: slices.Repeat(parse("cut"), longestList+1)}}, nil, impl.ErrBad},
		{append(routinesOf("add"), impl.Routine{Code: []impl.Instr{{Op: 27}}}), nil, impl.ErrBad},
		{routinesOf("cut", "value 1; store 0"), []int{1}, impl.ErrNone},
		{routinesOf("in 0; push 1; block 1; out 0"), []int{1}, impl.ErrNone},
		{routinesOf("call 0"), nil, impl.ErrCall},
		{routinesOf("", "call 1"), nil, impl.ErrCall},
		{routinesOf("cut", "add"), nil, impl.ErrStack},
		{routinesOf("cut", "cut", "push 1"), nil, impl.ErrStack},
		{routinesOf("in 0; store 0"), nil, impl.ErrType},
		{routinesOf("push 1; push 1; push 1; push 1; push 1; push 1; push 1; push 1; push 1"), nil, impl.ErrFull},
		{routinesOf("repeat 1; repeat 1; repeat 1; repeat 1; repeat 1; end; end; end; end; end"), nil, impl.ErrDepth},
		{routinesOf("cut", "end"), nil, impl.ErrNest},
		{routinesOf("cut", "else"), nil, impl.ErrNest},
		{routinesOf("cut", "repeat 2"), nil, impl.ErrNest},
		{routinesOf("in 0; if; else; else; end"), nil, impl.ErrNest},
		// the first routine that fails
		{routinesOf("cut", "add", "end"), nil, impl.ErrStack},
		{routinesOf("cut", "end", "add"), nil, impl.ErrNest},
	} {
		sums, code := impl.CostsOf(v.list, v.kinds)
		if len(sums) != 0 || code != v.want {
			t.Errorf("CostsOf of %d routines = %v, %d, want %d", len(v.list), sums, code, v.want)
		}
	}
	for _, list := range edgeRoutines() {
		for _, kinds := range edgeKinds() {
			_, _, want := impl.VerifyAll(list, kinds)
			if sums, code := impl.CostsOf(list, kinds); code != want || want != 0 && len(sums) != 0 || want == 0 && len(sums) != len(list) {
				t.Errorf("CostsOf of %d routines = %v, %d, VerifyAll has code %d", len(list), sums, code, want)
			}
		}
	}
}

func TestCostsOfReturnsNewMemory(t *testing.T) {
	list := routinesOf("cut", "call 0", "call 1")
	first := costsOf(t, list, nil)
	want := slices.Clone(first)
	clear(first[:cap(first)])
	if got := costsOf(t, list, nil); !slices.Equal(got, want) {
		t.Error("costs", got, "after those of the call before were changed, want", want)
	}
}

// A costing is the reference for CostsOf: it looks for the parts of each structure of accepted code with MatchOf.
type costing []impl.Summary

func (c costing) costOf(code []impl.Instr) impl.Summary {
	all := nothing()
	for at := 0; at < len(code); at++ {
		x := code[at]
		n := ticksOf(x.Op)
		switch x.Op {
		case 25:
			all = behindOf(all, summary(n, -1, n, 0, -1))
		case 26:
			all = behindOf(behindOf(all, summary(n, n, -1, -1, -1)), c[x.A])
		case 21, 24:
			other, end, _ := impl.MatchOf(code, at)
			all = behindOf(behindOf(all, summary(n, n, -1, -1, -1)), c.structure(code, at, other, end))
			at = end
		default:
			all = behindOf(all, summary(n, n, -1, -1, -1))
		}
	}
	return all
}

func (c costing) structure(code []impl.Instr, at, other, end int) impl.Summary {
	ending := func(part []impl.Instr) impl.Summary {
		return behindOf(c.costOf(part), summary(1, 1, -1, -1, -1))
	}
	switch {
	case code[at].Op == 24:
		all, body := nothing(), ending(code[at+1:end])
		for range code[at].A {
			all = behindOf(all, body)
		}
		return all
	case other == 0:
		return eitherOf(ending(code[at+1:end]), nothing())
	}
	return eitherOf(ending(code[at+1:other]), ending(code[other+1:end]))
}

// acceptedRoutines returns 1 to 6 routines, each of which may call those before it, of at most most instructions.
func acceptedRoutines(r *rand.Rand, kinds []int, most int) []impl.Routine {
	list := make([]impl.Routine, 1+r.Intn(6))
	for k := range list {
		list[k].Code = acceptedCode(r, kinds, k, r.Intn(most+1))
	}
	return list
}

func TestCostsOfRandomRoutines(t *testing.T) {
	r := rand.New(rand.NewSource(22))
	largest := 0
	for range 3000 {
		kinds := randomKinds(r)
		list := acceptedRoutines(r, kinds, 40)
		var want costing
		for _, routine := range list {
			want = append(want, want.costOf(routine.Code))
		}
		got := costsOf(t, list, kinds)
		if !slices.Equal(got, want) {
			t.Fatalf("the costs of %v are %v, want %v", list, got, want)
		}
		for _, a := range got {
			if !impl.SummaryOK(a) {
				t.Fatalf("the costs of %v are not valid: %v", list, got)
			}
			if a.Total == largestValue {
				largest++
			}
		}
	}
	if largest < 5 {
		t.Error("the largest value was reached", largest, "times")
	}
}

// Routines with an error in at most one place have the code that VerifyAll tells.
func TestCostsOfRandomErrors(t *testing.T) {
	r := rand.New(rand.NewSource(23))
	for range 3000 {
		kinds := randomKinds(r)
		list := acceptedRoutines(r, kinds, 40)
		k := r.Intn(len(list))
		list[k].Code = mutate(r, list[k].Code)
		_, _, want := impl.VerifyAll(list, kinds)
		if sums, code := impl.CostsOf(list, kinds); code != want || want != 0 && len(sums) != 0 {
			t.Fatalf("CostsOf(%v, %v) = %v, %d, VerifyAll has code %d", list, kinds, sums, code, want)
		}
	}
}
