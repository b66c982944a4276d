package tests

import (
	"fmt"
	"math/rand"
	"slices"
	"testing"

	"loop.example/g00684/impl"
)

// An execution measures the sections of routines that are executed: the ticks up to the end of the first cut, between the ends of
// cuts, and behind the end of the last one. There is one section if there is no cut.
type execution struct {
	list     []impl.Routine
	choose   func() bool
	ticks    []int // by operation
	sections []int
}

// sectionsOf executes the last routine.
func sectionsOf(list []impl.Routine, choose func() bool) []int {
	e := &execution{list: list, choose: choose, ticks: []int{0}, sections: []int{0}}
	for _, row := range opTable() {
		e.ticks = append(e.ticks, row.ticks)
	}
	e.routine(len(list) - 1)
	return e.sections
}

func (e *execution) routine(k int) {
	m := newMachine(e.list[k].Code, e.choose)
	for at := 0; at < len(m.code); at = m.next(at) {
		e.sections[len(e.sections)-1] += e.ticks[m.code[at].Op]
		switch m.code[at].Op {
		case 25:
			e.sections = append(e.sections, 0)
		case 26:
			e.routine(m.code[at].A)
		}
	}
}

// summaryOf holds what one execution takes.
func summaryOf(sections []int) impl.Summary {
	total := 0
	for _, n := range sections {
		total += n
	}
	last := len(sections) - 1
	if last == 0 {
		return summary(total, total, -1, -1, -1)
	}
	a := summary(total, -1, sections[0], sections[last], -1)
	for _, n := range sections[1:last] {
		a.Inner = max(a.Inner, n)
	}
	return a
}

// eachExecution calls check with each execution of the last routine, at most most times; it reports whether these were all.
func eachExecution(list []impl.Routine, most int, check func(impl.Summary)) bool {
	var choices []bool
	for range most {
		used := 0
		check(summaryOf(sectionsOf(list, func() bool {
			if used == len(choices) {
				choices = append(choices, false)
			}
			used++
			return choices[used-1]
		})))
		// The next execution differs in the last choice that can still become true.
		for len(choices) > 0 && choices[len(choices)-1] {
			choices = choices[:len(choices)-1]
		}
		if len(choices) == 0 {
			return true
		}
		choices[len(choices)-1] = true
	}
	return false
}

func isWithin(a, bounds impl.Summary) bool {
	return a.Total <= bounds.Total && a.None <= bounds.None && a.Head <= bounds.Head && a.Tail <= bounds.Tail && a.Inner <= bounds.Inner
}

// checkExecutions compares the bounds of the last routine with its executions. If there are few enough to take all of
// them, each bound is the time that one of them takes, and -1 if none has such a section.
func checkExecutions(t *testing.T, list []impl.Routine, kinds []int, r *rand.Rand, most int) bool {
	t.Helper()
	sums := costsOf(t, list, kinds)
	bounds := sums[len(sums)-1]
	longest := level(-1)
	check := func(a impl.Summary) {
		if !isWithin(a, bounds) {
			t.Fatalf("an execution of %v takes %v, its bounds are %v", list, a, bounds)
		}
		longest = eitherOf(longest, a)
	}
	if eachExecution(list, most, check) {
		if longest != bounds {
			t.Fatalf("the executions of %v take up to %v, its bounds are %v", list, longest, bounds)
		}
		return true
	}
	for _, always := range []bool{false, true} {
		check(summaryOf(sectionsOf(list, func() bool { return always })))
	}
	for range most {
		check(summaryOf(sectionsOf(list, byChance(r))))
	}
	return false
}

func checkAllExecutions(t *testing.T, texts ...string) {
	t.Helper()
	if !checkExecutions(t, routinesOf(texts...), allKinds(), nil, 1<<14) {
		t.Error("there are too many executions of", texts)
	}
}

func TestSectionsOfExecutions(t *testing.T) {
	for _, v := range []struct {
		text string
		goes bool
		want []int
	}{
		{"", true, []int{0}},
		{"push 1; store 0", true, []int{2}},
		{"cut; cut", true, []int{1, 1, 0}},
		{"repeat 3; load 0; store 0; cut; end; call 0", true, []int{4, 4, 4, 5, 3}},
		{"in 0; if; cut; else; push 6; push 2; div; store 0; end", true, []int{3, 1}},
		{"in 0; if; cut; else; push 6; push 2; div; store 0; end", false, []int{10}},
		{"in 0; if; cut; end; cut", true, []int{3, 2, 0}},
		{"in 0; if; cut; end; cut", false, []int{3, 0}},
	} {
		list := append(routinesOf("load 0; cut; mul; in 0"), routinesOf(v.text)...)
		if got := sectionsOf(list, func() bool { return v.goes }); !slices.Equal(got, v.want) {
			t.Errorf("the sections of %q are %v, want %v", v.text, got, v.want)
		}
	}
	count := 0
	if !eachExecution(routinesOf("repeat 3; in 0; if; in 1; if; end; end; end"), 27, func(impl.Summary) { count++ }) || count != 27 {
		t.Error("executions", count)
	}
}

func TestBoundsOfAllExecutions(t *testing.T) {
	for _, text := range []string{
		"", "cut", "push 1; store 0", "repeat 20; cut; end", "repeat 20; load 0; store 0; end",
		"in 0; if; cut; end", "in 0; if; else; cut; end", "in 0; if; cut; else; end", "in 0; if; cut; else; cut; end",
		"in 0; if; load 0; store 0; end; in 1; if; cut; end; in 2; if; else; cut; load 0; store 0; end",
		"in 0; if; in 1; if; in 2; if; in 3; if; cut; end; else; cut; end; end; load 0; store 0; end",
		"repeat 3; in 0; if; cut; load 0; store 0; else; repeat 2; in 1; if; cut; end; end; end; end",
		"repeat 2; repeat 2; in 0; if; load 0; store 0; else; cut; end; end; cut; end",
		"cut; repeat 5; in 0; if; load 0; store 0; cut; end; end; cut",
	} {
		checkAllExecutions(t, text)
		checkAllExecutions(t, text, "call 0")
		checkAllExecutions(t, text, "cut; call 0; in 0; if; call 0; end")
	}
	checkAllExecutions(t, "in 0; if; cut; end", "call 0; call 0", "repeat 2; call 1; end", "in 0; if; call 2; else; call 0; end")
}

// Each number of repetitions; the if that is repeated goes each way in each repetition, where that makes not too many executions.
func TestBoundsOfEveryNumberOfRepetitions(t *testing.T) {
	r := rand.New(rand.NewSource(24))
	for n := 1; n <= 20; n++ {
		for _, body := range []string{"", "cut", "load 0; store 0", "cut; load 0; store 0", "repeat 3; cut; end"} {
			checkAllExecutions(t, fmt.Sprintf("repeat %d; %s; end", n, body))
		}
		for _, body := range []string{"in 0; if; cut; end", "in 0; if; cut; load 0; store 0; else; end", "in 0; if; load 0; store 0; else; cut; cut; end"} {
			all := checkExecutions(t, routinesOf(fmt.Sprintf("repeat %d; %s; end", n, body)), nil, r, 1<<10)
			if all != (n <= 10) {
				t.Error("all executions of", n, "repetitions:", all)
			}
		}
	}
}

// eachPart calls check with all code made of exactly size of these: a cut, a call, an if with or without else, a repeat.
func eachPart(size int, check func(text string)) {
	if size == 0 {
		check("")
		return
	}
	for first := 1; first <= size; first++ {
		eachPiece(first, func(piece string) {
			eachPart(size-first, func(rest string) { check(piece + rest) })
		})
	}
}

func eachPiece(size int, check func(text string)) {
	if size == 1 {
		check("cut;")
		check("call 0;")
	}
	eachPart(size-1, func(body string) {
		check("repeat 2;" + body + "end;")
		check("in 0; if;" + body + "end;")
	})
	for first := range size {
		eachPart(first, func(one string) {
			eachPart(size-1-first, func(other string) {
				check("in 0; if;" + one + "else;" + other + "end;")
			})
		})
	}
}

// Every mixture of ifs, repeats, cuts and calls of a routine that takes a while, with a cut or without.
func TestBoundsOfAllSmallCode(t *testing.T) {
	for size := range 4 {
		eachPart(size, func(text string) {
			for _, called := range []string{"load 0; store 0", "cut; load 0; store 0", "in 0; if; load 0; store 0; cut; end"} {
				checkAllExecutions(t, called, text)
			}
		})
	}
	eachPart(4, func(text string) { checkAllExecutions(t, "load 0; store 0", text) })
}

// repeatLess leaves about one repeat of n as it is, and gives the others at most three iterations.
func repeatLess(r *rand.Rand, list []impl.Routine, n int) {
	for k := range list {
		for i, x := range list[k].Code {
			if x.Op == 24 && r.Intn(n) > 0 {
				list[k].Code[i].A = 1 + x.A%3
			}
		}
	}
}

func TestBoundsOfRandomRoutines(t *testing.T) {
	r := rand.New(rand.NewSource(25))
	all, some := 0, 0
	for range 3000 {
		kinds := randomKinds(r)
		list := acceptedRoutines(r, kinds, 40)
		repeatLess(r, list, 8)
		sums := costsOf(t, list, kinds)
		if sums[len(sums)-1].Total > 3000 {
			continue
		}
		if checkExecutions(t, list, kinds, r, 300) {
			all++
		} else {
			some++
		}
	}
	if all < 500 || some < 30 {
		t.Error("routines with all their executions:", all, "and with some of them:", some)
	}
}
