package tests

import (
	"fmt"
	"math"
	"math/rand"
	"slices"
	"strings"
	"testing"

	"loop.example/g00684/impl"
)

// loadOf returns code with a Total of n ticks, which is from 2982 to 3004, and with cuts as long as there is room.
func loadOf(n int) string {
	nested := "repeat 20; repeat 20; cut; cut; cut; cut; cut; cut; end; end;" // 2841 ticks
	single := "repeat 20; cut; cut; cut; cut; cut; cut; end;"                 // 141 ticks
	return nested + single + strings.Repeat("cut;", n-2982)
}

func TestRunAtTheLargestLoad(t *testing.T) {
	r := rand.New(rand.NewSource(91))
	d := mixedData(r, allKinds())
	for n := 2982; n <= 3004; n++ {
		list := routinesOf(loadOf(n))
		if sums := costsOf(t, list, nil); sums[0].Total != n {
			t.Fatal("the load is", sums[0], "want", n)
		}
		if n <= 3000 {
			wantRun(t, list, d, 0, n, d)
			wantRun(t, list, d, largestValue, n, d)
		} else {
			wantNoRun(t, list, 0, d, 0, impl.ErrLoad)
			wantNoRun(t, list, 0, d, largestValue, impl.ErrLoad)
		}
	}
}

// The Total counts, not what the execution would take, and only that of the routine which is executed.
func TestRunOfLoads(t *testing.T) {
	d := newData()
	// Pin 0 is false, so both would take a few ticks only.
	wantRun(t, routinesOf(loadOf(2995), "in 0; if; call 0; end"), d, 0, 2, d)
	wantRun(t, routinesOf(loadOf(2994), "in 0; if; call 0; end"), d, 0, 2, d)
	for _, texts := range [][]string{
		{loadOf(2996), "in 0; if; call 0; end"},
		{loadOf(3001), "in 0; if; call 0; end"},
		{loadOf(2999), "call 0"},
		{"repeat 20; repeat 20; repeat 20; repeat 20; end; end; end; end"},
		{"repeat 20; repeat 20; repeat 20; repeat 20; cut; end; end; end; end", "repeat 20; repeat 20; call 0; end; end", "repeat 20; repeat 20; call 1; end; end"},
	} {
		wantNoRun(t, routinesOf(texts...), len(texts)-1, d, 0, impl.ErrLoad)
	}
	list := routinesOf("cut", loadOf(3001), "call 1", "call 0", "")
	for routine, n := range []int{1, 0, 0, 3, 0} {
		y, ticks, code := runBoth(t, list, routine, d, 0)
		if want := routine == 1 || routine == 2; (code == impl.ErrLoad) != want || ticks != n || code == 0 && !equalData(y, d) {
			t.Errorf("routine %d takes %d ticks, %d", routine, ticks, code)
		}
	}
}

func TestRunOutOfRange(t *testing.T) {
	d := newData()
	for n := range 7 {
		list := slices.Repeat(routinesOf("cut"), n)
		for _, routine := range append(edgeInts(), n, n+1) {
			if routine < 0 || routine >= n {
				wantNoRun(t, list, routine, d, 0, impl.ErrRange)
				wantNoRun(t, list, routine, d, -1, impl.ErrRange)
				continue
			}
			if _, ticks, code := runBoth(t, list, routine, d, 0); code != 0 || ticks != 1 {
				t.Errorf("routine %d of %d takes %d ticks, %d", routine, n, ticks, code)
			}
		}
	}
	for _, now := range append(noValues(), -1, -2, smallestValue) {
		wantNoRun(t, routinesOf("cut"), 0, d, now, impl.ErrRange)
		wantNoRun(t, routinesOf(""), 0, d, now, impl.ErrRange)
	}
}

func TestRunOfInvalidData(t *testing.T) {
	for _, d := range invalidDatas() {
		wantNoRun(t, routinesOf("cut"), 0, d, 0, impl.ErrBad)
	}
}

// What the verifier rejects, with the blocks that the data has.
func TestRunOfRejectedRoutines(t *testing.T) {
	for _, v := range []struct {
		list []impl.Routine
		want int
	}{
		{make([]impl.Routine, 7), impl.ErrBad},
		{make([]impl.Routine, longestList), impl.ErrBad},
		{make([]impl.Routine, longestList+1), impl.ErrLong},
		{[]impl.Routine{{Code: slices.Repeat(parse("cut"), 41)}}, impl.ErrBad},
		{[]impl.Routine{{Code: slices.Repeat(parse("cut"), longestList+1)}}, impl.ErrBad},
		{[]impl.Routine{{}, {Code: []impl.Instr{{Op: 9, A: 1}}}}, impl.ErrBad},
		{routinesOf("value 1; store 0"), impl.ErrNone},
		{routinesOf("in 0; push 1; block 1; out 0"), impl.ErrNone},
		{routinesOf("in 0; push 1; block 0; out 0"), impl.ErrType},
		{routinesOf("in 0; block 0; out 0"), impl.ErrStack},
		{routinesOf("call 0"), impl.ErrCall},
		{routinesOf("", "call 1"), impl.ErrCall},
		{routinesOf("add"), impl.ErrStack},
		{routinesOf("cut", "push 1"), impl.ErrStack},
		{routinesOf("in 0; store 0"), impl.ErrType},
		{routinesOf(strings.Repeat("push 1;", 9)), impl.ErrFull},
		{routinesOf(strings.Repeat("repeat 1;", 5)), impl.ErrDepth},
		{routinesOf("cut", "end"), impl.ErrNest},
		{routinesOf("repeat 2; else; end"), impl.ErrNest},
	} {
		// Also routines that would be fine themselves, and those that do not exist.
		for _, routine := range []int{math.MinInt, -1, 0, 1, 6, math.MaxInt} {
			for _, now := range []int{-1, 0, largestValue + 1} {
				wantNoRun(t, v.list, routine, newData(4), now, v.want)
			}
		}
	}
}

// Each error beside all later ones.
func TestRunOrder(t *testing.T) {
	bad, valid := newData(1, 5), newData(1)
	long := slices.Repeat(routinesOf("add"), longestList+1)
	heavy := routinesOf(loadOf(3001))
	for _, routine := range []int{0, 1, -1} {
		for _, now := range []int{0, -1, largestValue + 1} {
			wantNoRun(t, long, routine, bad, now, impl.ErrLong)
			wantNoRun(t, long, routine, valid, now, impl.ErrLong)
			wantNoRun(t, routinesOf("add"), routine, bad, now, impl.ErrBad)
			wantNoRun(t, routinesOf(loadOf(3001), "end"), routine, bad, now, impl.ErrBad)
			wantNoRun(t, heavy, routine, bad, now, impl.ErrBad)
			wantNoRun(t, nil, routine, bad, now, impl.ErrBad)
			wantNoRun(t, routinesOf(loadOf(3001), "end"), routine, valid, now, impl.ErrNest)
			if routine != 0 || now != 0 {
				wantNoRun(t, heavy, routine, valid, now, impl.ErrRange)
			}
		}
	}
	wantNoRun(t, heavy, 0, valid, 0, impl.ErrLoad)
}

// A jumping is the reference for both interpreters: it goes through the code by indices, and calls by recursion.
type jumping struct {
	list         []impl.Routine
	data         impl.Data
	stack        []int
	callers      []impl.Frame // each directly behind its call
	now, elapsed int
	note         func(x impl.Instr, f impl.Frame) // is called before each instruction with the frame that executes it
}

// frame executes what is left of a frame.
func (j *jumping) frame(f impl.Frame) {
	m := newMachine(j.list[f.Routine].Code, func() bool {
		top := j.stack[len(j.stack)-1]
		j.stack = j.stack[:len(j.stack)-1]
		return top > 0
	})
	m.loops, m.begun = slices.Clone(f.Loops), openAt(m.code, f.Pc)
	for at := f.Pc; at < len(m.code); at = m.next(at) {
		x := m.code[at]
		j.note(x, impl.Frame{Routine: f.Routine, Pc: at, Loops: m.loops})
		now := min(j.now+j.elapsed, largestValue)
		j.elapsed += ticksOf(x.Op)
		switch x.Op {
		case 21, 22, 23, 24:
		case 26:
			j.callers = append(j.callers, impl.Frame{Routine: f.Routine, Pc: at + 1, Loops: m.loops})
			j.frame(impl.Frame{Routine: x.A})
			j.callers = j.callers[:len(j.callers)-1]
		default:
			j.stack = applyByRule(&j.data, x, j.stack, now)
		}
	}
}

// openAt returns the indices of the repeats that are before pc and have their end at or behind pc.
func openAt(code []impl.Instr, pc int) []int {
	var list []int
	for at, m := range matchesOf(code) {
		if code[at].Op == 24 && at < pc && m.end >= pc {
			list = append(list, at)
		}
	}
	return list
}

// runByRule executes a routine that takes few enough ticks.
func runByRule(list []impl.Routine, k int, d impl.Data, now int) (impl.Data, int) {
	j := &jumping{list: list, data: copyOfData(d), now: now, note: func(impl.Instr, impl.Frame) {}}
	j.frame(impl.Frame{Routine: k})
	return j.data, j.elapsed
}

// checkRun compares each routine with the reference and with its Total; it returns how many were executed and how many refused.
func checkRun(t *testing.T, list []impl.Routine, d impl.Data, now int) (int, int) {
	t.Helper()
	sums := costsOf(t, list, kindsOf(d))
	executed, refused := 0, 0
	for k := range list {
		y, n, code := runBoth(t, list, k, d, now)
		if sums[k].Total > 3000 {
			if code != impl.ErrLoad || n != 0 || !isZeroData(y) {
				t.Fatalf("TreeRun(%v, %d, %v, %d) = %v, %d, %d, the Total is %d", list, k, d, now, y, n, code, sums[k].Total)
			}
			refused++
			continue
		}
		want, ticks := runByRule(list, k, d, now)
		if code != 0 || n != ticks || n > sums[k].Total || !equalData(y, want) || !impl.DataOK(y) {
			t.Fatalf("TreeRun(%v, %d, %v, %d) = %v, %d, %d, want %v, %d, the Total is %d", list, k, d, now, y, n, code, want, ticks, sums[k].Total)
		}
		executed++
	}
	return executed, refused
}

func mixedTime(r *rand.Rand) int {
	return []int{0, r.Intn(10), r.Intn(1 << 31), largestValue - r.Intn(60), largestValue}[r.Intn(5)]
}

func TestRunOfRandomRoutines(t *testing.T) {
	r := rand.New(rand.NewSource(92))
	executed, refused := 0, 0
	for range 2500 {
		kinds := randomKinds(r)
		list := acceptedRoutines(r, kinds, 40)
		repeatLess(r, list, 3)
		a, b := checkRun(t, list, mixedData(r, kinds), mixedTime(r))
		executed, refused = executed+a, refused+b
	}
	if executed < 4000 || refused < 200 {
		t.Error("routines executed:", executed, "and refused:", refused)
	}
}

// Routines with an error in at most one place have the code that VerifyAll tells.
func TestRunOfRandomErrors(t *testing.T) {
	r := rand.New(rand.NewSource(93))
	for range 3000 {
		kinds := randomKinds(r)
		list := acceptedRoutines(r, kinds, 40)
		k := r.Intn(len(list))
		list[k].Code = mutate(r, list[k].Code)
		d := mixedData(r, kinds)
		if _, _, want := impl.VerifyAll(list, kinds); want != 0 {
			wantNoRun(t, list, r.Intn(len(list)), d, 0, want)
			continue
		}
		checkRun(t, list, d, 0)
	}
}

// Every mixture of ifs, repeats, cuts and calls: the condition of an if is another bit of a global each time, so that an if in
// a repeat goes both ways. A timer tells when the routine that is called was reached first and last.
func TestRunOfAllSmallCode(t *testing.T) {
	called := parse("flag 1; push 1000; block 0; out 7; load 1; push 1; add; store 1")
	condition := parse("load 0; push 2; div; store 0; load 0; push 2; div; push 2; mul; load 0; same; not; if")
	for size := range 5 {
		eachPart(size, func(text string) {
			var code []impl.Instr
			for _, x := range parse(text) {
				if x.Op == 21 {
					code = append(code[:len(code)-1], condition...)
				} else {
					code = append(code, x)
				}
			}
			if len(code) > 40 {
				return
			}
			list := []impl.Routine{{Code: called}, {Code: code}}
			for _, bits := range []int{0, 0xffff, 0x5555, 0xaaaa, 0x3333, 0x96a5} {
				d := newData(1)
				d.Globals[0] = bits
				checkRun(t, list, d, 7)
			}
		})
	}
}

// The reference itself, by what it does with a routine of each structure.
func TestJumping(t *testing.T) {
	for _, v := range []struct {
		text  string
		bits  int
		ticks int
	}{
		{"", 0, 0}, {"cut", 0, 1}, {"load 0; push 1; same; if; cut; end", 0, 4}, {"load 0; push 1; same; if; cut; end", 1, 6},
		{"load 0; push 1; same; if; cut; else; cut; cut; end", 0, 7}, {"load 0; push 1; same; if; cut; else; cut; cut; end", 1, 6},
		{"repeat 3; cut; end", 0, 7}, {"repeat 3; load 0; push 1; same; if; repeat 2; end; else; end; end", 1, 1 + 3*9},
	} {
		d := newData()
		d.Globals[0] = v.bits
		if _, n := runByRule(routinesOf(v.text), 0, d, 0); n != v.ticks {
			t.Error(fmt.Sprintf("%q with %d takes", v.text, v.bits), n, "ticks, want", v.ticks)
		}
	}
}
