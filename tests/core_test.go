package tests

import (
	"fmt"
	"math"
	"math/rand"
	"slices"
	"strings"
	"testing"

	"loop.example/g00684/impl"
)

func frameAt(routine, pc int, loops ...int) impl.Frame {
	return impl.Frame{Routine: routine, Pc: pc, Loops: loops}
}

func coreOf(stack []int, frames ...impl.Frame) impl.Core {
	return impl.Core{Frames: frames, Stack: stack}
}

func copyOfCore(c impl.Core) impl.Core {
	c.Frames, c.Stack = slices.Clone(c.Frames), slices.Clone(c.Stack)
	for i := range c.Frames {
		c.Frames[i].Loops = slices.Clone(c.Frames[i].Loops)
	}
	return c
}

// changedCore returns a copy with one change.
func changedCore(c impl.Core, change func(*impl.Core)) impl.Core {
	c = copyOfCore(c)
	change(&c)
	return c
}

// equalCores compares all fields of any two cores, whether they are valid or not.
func equalCores(a, b impl.Core) bool {
	return slices.Equal(a.Stack, b.Stack) && slices.EqualFunc(a.Frames, b.Frames, func(f, g impl.Frame) bool {
		return f.Routine == g.Routine && f.Pc == g.Pc && slices.Equal(f.Loops, g.Loops)
	})
}

func isZeroCore(c impl.Core) bool {
	return equalCores(c, impl.Core{})
}

// coreByRule is the reference for CoreOK.
func coreByRule(list []impl.Routine, kinds []int, c impl.Core) bool {
	if _, _, code := impl.VerifyAll(list, kinds); code != 0 || len(c.Frames) > 6 {
		return false
	}
	types := ""
	for i, f := range c.Frames {
		if f.Routine < 0 || f.Routine >= len(list) {
			return false
		}
		code := list[f.Routine].Code
		if f.Pc < 0 || f.Pc > len(code) {
			return false
		}
		if i == len(c.Frames)-1 {
			if f.Pc == len(code) {
				return false
			}
		} else if f.Pc == 0 || code[f.Pc-1].Op != 26 || code[f.Pc-1].A != c.Frames[i+1].Routine {
			return false
		}
		open := openAt(code, f.Pc)
		if len(open) != len(f.Loops) {
			return false
		}
		for k, n := range f.Loops {
			if n < 1 || n > code[open[k]].A {
				return false
			}
		}
		s, _ := impl.StackAt(code, kinds, f.Routine, f.Pc)
		types += s
	}
	if len(types) != len(c.Stack) {
		return false
	}
	for i, n := range c.Stack {
		if !isValue(n) || types[i] == 'b' && n != 0 && n != 1 {
			return false
		}
	}
	return true
}

// wantCore expects a valid or an invalid core, also where it is executed.
func wantCore(t *testing.T, list []impl.Routine, kinds []int, c impl.Core, want bool) {
	t.Helper()
	if got := impl.CoreOK(list, kinds, c); got != want || coreByRule(list, kinds, c) != want {
		t.Errorf("CoreOK of %s with kinds %s in %s is %t, want %t", brief(c), brief(kinds), brief(list), got, want)
	}
	_, _, stepCode := impl.VerifyAll(list, kinds)
	if stepCode != 0 {
		return
	}
	blockCode := 0
	switch {
	case !want:
		stepCode, blockCode = impl.ErrBad, impl.ErrBad
	case len(c.Frames) == 0:
		stepCode, blockCode = impl.ErrEnd, impl.ErrEnd
	case costsOf(t, list, kinds)[c.Frames[0].Routine].Total > 3000:
		blockCode = impl.ErrLoad
	}
	_, _, _, code := impl.StepCore(list, newData(kinds...), c, 0)
	_, _, _, other := impl.BlockRun(list, newData(kinds...), c, 0)
	if code != stepCode || other != blockCode {
		t.Errorf("the codes for %s with kinds %v in %s are %d of StepCore and %d of BlockRun, want %d and %d",
			brief(c), kinds, brief(list), code, other, stepCode, blockCode)
	}
}

// callers are routines of which each may be on its way in the next one: the first of these frames is behind the last instruction of
// its routine, the third and the fourth are in repeats.
func callers() ([]impl.Routine, impl.Core) {
	return routinesOf("load 0; push 1; add; store 0",
			"push 5; in 0; repeat 3; in 1; if; repeat 20; call 0; end; end; end; out 0; store 1",
			"",
			"in 0; repeat 2; call 1; end; out 1",
			"push 4; call 3; store 2; call 3",
			"call 4"),
		coreOf([]int{4, 0, 5, 1, -6, 7}, frameAt(5, 1), frameAt(4, 2), frameAt(3, 3, 2), frameAt(1, 7, 1, 20), frameAt(0, 2))
}

func TestCoreOK(t *testing.T) {
	list, c := callers()
	wantCore(t, list, nil, c, true)
	wantCore(t, list, nil, coreOf(nil), true)
	wantCore(t, nil, nil, coreOf(nil), true)
	// The same call at another place of the second frame, and each shorter chain of frames.
	wantCore(t, list, nil, coreOf(c.Stack[1:], frameAt(5, 1), frameAt(4, 4), c.Frames[2], c.Frames[3], c.Frames[4]), true)
	for i, first := range []int{0, 0, 1, 2, 4} {
		wantCore(t, list, nil, coreOf(c.Stack[first:], c.Frames[i:]...), true)
	}
	wantCore(t, list, nil, coreOf(nil, frameAt(5, 1), frameAt(4, 0)), true)
	wantCore(t, list, nil, coreOf([]int{4}, frameAt(4, 2), frameAt(3, 0)), true)
	wantCore(t, list, nil, coreOf([]int{4}, frameAt(5, 1), frameAt(4, 1)), true)
	// Any one of the frames but the first is missing.
	for i := 1; i < len(c.Frames); i++ {
		without := changedCore(c, func(c *impl.Core) { c.Frames = slices.Delete(c.Frames, i, i+1) })
		wantCore(t, list, nil, without, false)
	}
	wantCore(t, list, nil, coreOf(c.Stack, slices.Concat(c.Frames[:4], c.Frames[:1])...), false)
	wantCore(t, list, nil, coreOf(nil, frameAt(5, 0), frameAt(5, 0)), false)
}

func TestCoreOKWithoutFrames(t *testing.T) {
	list, _ := callers()
	for _, routines := range [][]impl.Routine{nil, list, make([]impl.Routine, 6)} {
		wantCore(t, routines, nil, impl.Core{}, true)
		wantCore(t, routines, nil, impl.Core{Frames: []impl.Frame{}, Stack: []int{}}, true)
		for n := 1; n < 50; n++ {
			wantCore(t, routines, nil, coreOf(make([]int, n)), false)
		}
	}
}

// As many frames as there can be routines, and one more in front, behind or in between.
func TestCoreOKByNumberOfFrames(t *testing.T) {
	list := routinesOf("cut", "call 0", "call 1", "call 2", "call 3", "call 4")
	frames := []impl.Frame{frameAt(5, 1), frameAt(4, 1), frameAt(3, 1), frameAt(2, 1), frameAt(1, 1), frameAt(0, 0)}
	for i := range frames {
		wantCore(t, list, nil, coreOf(nil, frames[i:]...), true)
		wantCore(t, list[:6-i], nil, coreOf(nil, frames[i:]...), true)
		wantCore(t, list, nil, coreOf(nil, frames[:i+1]...), i == 5)
		for _, f := range append(frames, frameAt(6, 1), frameAt(6, 0), frameAt(0, 1)) {
			wantCore(t, list, nil, coreOf(nil, slices.Insert(slices.Clone(frames), i, f)...), false)
		}
	}
	wantCore(t, list, nil, coreOf(nil, append(slices.Clone(frames), frameAt(0, 0))...), false)
	for _, n := range []int{7, 8, 255, 256, 257, longestList, longestList + 1, 1 << 16} {
		wantCore(t, list, nil, coreOf(nil, make([]impl.Frame, n)...), false)
		wantCore(t, list, nil, coreOf(nil, slices.Concat(slices.Repeat(frames[:1], n), frames)...), false)
	}
}

func TestCoreOKByRoutine(t *testing.T) {
	for n := range 7 {
		list := routinesOf("cut", "cut", "call 0", "cut", "cut; call 1", "cut")[:n]
		for _, k := range append(edgeInts(), n-1, n) {
			wantCore(t, list, nil, coreOf(nil, frameAt(k, 0)), k >= 0 && k < n)
			// Below a frame, it must be the routine of the call, even if it is like another one.
			if n > 4 {
				wantCore(t, list, nil, coreOf(nil, frameAt(4, 2), frameAt(k, 0)), k == 1)
				wantCore(t, list, nil, coreOf(nil, frameAt(2, 1), frameAt(k, 0)), k == 0)
				wantCore(t, list, nil, coreOf(nil, frameAt(k, 2), frameAt(1, 0)), k == 4)
			}
		}
	}
	// A routine without instructions has no place for the last frame.
	wantCore(t, routinesOf("", "call 0"), nil, coreOf(nil, frameAt(0, 0)), false)
	wantCore(t, routinesOf("", "call 0"), nil, coreOf(nil, frameAt(1, 1), frameAt(0, 0)), false)
	wantCore(t, routinesOf("", "call 0"), nil, coreOf(nil, frameAt(1, 0)), true)
}

func TestCoreOKByPc(t *testing.T) {
	for _, n := range []int{1, 2, 3, 39, 40} {
		list := routinesOf("cut", strings.Repeat("call 0;", n), strings.Repeat("cut;", n))
		for _, pc := range append(edgeInts(), n-1, n, n+1) {
			// The last frame is before an instruction, the other ones are behind a call.
			wantCore(t, list, nil, coreOf(nil, frameAt(1, pc)), pc >= 0 && pc < n)
			wantCore(t, list, nil, coreOf(nil, frameAt(2, pc)), pc >= 0 && pc < n)
			wantCore(t, list, nil, coreOf(nil, frameAt(1, pc), frameAt(0, 0)), pc > 0 && pc <= n)
			wantCore(t, list, nil, coreOf(nil, frameAt(2, pc), frameAt(0, 0)), false)
		}
	}
	// Directly behind the call, and behind that of the right routine.
	list := routinesOf("cut", "cut", "cut; call 0; cut; call 1; call 0; push 0; store 0")
	for pc := range 9 {
		wantCore(t, list, nil, coreOf(nil, frameAt(2, pc), frameAt(0, 0)), pc == 2 || pc == 5)
		wantCore(t, list, nil, coreOf(nil, frameAt(2, pc), frameAt(1, 0)), pc == 4)
	}
}

// wantCounters expects valid counters from 1 to each of most only, and neither fewer nor more of them. The core has them in frame i.
func wantCounters(t *testing.T, list []impl.Routine, c impl.Core, i int, most ...int) {
	t.Helper()
	with := func(loops ...int) impl.Core {
		return changedCore(c, func(c *impl.Core) { c.Frames[i].Loops = loops })
	}
	wantCore(t, list, nil, with(most...), true)
	ones := slices.Repeat([]int{1}, len(most))
	wantCore(t, list, nil, with(ones...), true)
	for n := range 8 {
		wantCore(t, list, nil, with(slices.Repeat([]int{1}, n)...), n == len(most))
		if n > 0 {
			wantCore(t, list, nil, with(append(slices.Clone(most), most[:min(n, len(most))]...)...), len(most) == 0)
		}
	}
	for k, a := range most {
		for _, n := range append(edgeInts(), a-1, a, a+1) {
			wantCore(t, list, nil, with(slices.Concat(most[:k], []int{n}, most[k+1:])...), n >= 1 && n <= a)
		}
		wantCore(t, list, nil, with(slices.Delete(slices.Clone(most), k, k+1)...), false)
	}
}

func TestCoreOKByCounters(t *testing.T) {
	list := routinesOf("repeat 2; repeat 5; cut; repeat 1; repeat 20; cut; end; end; end; cut; end; cut")
	for pc, most := range [][]int{{}, {2}, {2, 5}, {2, 5}, {2, 5, 1}, {2, 5, 1, 20}, {2, 5, 1, 20}, {2, 5, 1}, {2, 5}, {2}, {2}, {}} {
		wantCounters(t, list, coreOf(nil, frameAt(0, pc)), 0, most...)
	}
	// An if has no counter, and a repeat that is closed or in the other branch has none.
	list = routinesOf("repeat 9; end; in 0; if; repeat 4; in 0; if; cut; end; end; else; repeat 7; cut; end; end; repeat 3; end")
	for pc, most := range [][]int{{}, {9}, {}, nil, {}, {4}, nil, {4}, {4}, {4}, {}, {}, {7}, {7}, {}, {}, {3}} {
		if pc != 3 && pc != 6 { // a boolean is on the stack there
			wantCounters(t, list, coreOf(nil, frameAt(0, pc)), 0, most...)
		}
	}
	// A frame behind a call, which may be the last instruction of a repeat.
	list = routinesOf("cut", "repeat 3; call 0; end; repeat 6; repeat 2; call 0; end; call 0; cut; end; call 0")
	for pc, most := range map[int][]int{2: {3}, 6: {6, 2}, 8: {6}, 11: {}} {
		wantCounters(t, list, coreOf(nil, frameAt(1, pc), frameAt(0, 0)), 0, most...)
	}
	full, c := callers()
	for i, most := range [][]int{{}, {}, {2}, {3, 20}, {}} {
		wantCounters(t, full, c, i, most...)
	}
	for a := 1; a <= 20; a++ {
		wantCounters(t, routinesOf(fmt.Sprintf("repeat %d; cut; end", a)), coreOf(nil, frameAt(0, 1)), 0, a)
	}
}

// wantStack expects elements of these types only, and neither fewer nor more of them.
func wantStack(t *testing.T, list []impl.Routine, kinds []int, types string, frames ...impl.Frame) {
	t.Helper()
	for _, n := range []int{0, 1} {
		stack := slices.Repeat([]int{n}, len(types))
		wantCore(t, list, kinds, coreOf(stack, frames...), true)
		wantCore(t, list, kinds, coreOf(append(slices.Clone(stack), n), frames...), false)
		if len(types) > 0 {
			wantCore(t, list, kinds, coreOf(stack[1:], frames...), false)
			wantCore(t, list, kinds, coreOf(nil, frames...), false)
		}
		for i := range types {
			for _, v := range append(noValues(), smallestValue, smallestValue+1, -1, 0, 1, 2, 256, largestValue-1, largestValue) {
				other := slices.Clone(stack)
				other[i] = v
				wantCore(t, list, kinds, coreOf(other, frames...), v == 0 || v == 1 || types[i] == 'i' && isValue(v))
			}
		}
	}
	for _, n := range []int{longestList, longestList + 1, 1 << 16, 1<<16 + len(types)} {
		wantCore(t, list, kinds, coreOf(make([]int, n), frames...), false)
	}
}

func TestCoreOKByStack(t *testing.T) {
	list, c := callers()
	wantStack(t, list, nil, "ibibii", c.Frames...)
	wantStack(t, list, nil, "bibii", frameAt(5, 1), frameAt(4, 4), c.Frames[2], c.Frames[3], c.Frames[4])
	wantStack(t, list, nil, "", frameAt(0, 0))
	for pc, types := range []string{"", "i", "ii", "i"} {
		wantStack(t, list, nil, types, frameAt(0, pc))
	}
	list = routinesOf("in 0; push 5; block 0; in 1; in 2; push 6; block 1; and; value 0; value 1; sel; store 0",
		"push 1; in 0; call 0; out 0; store 0")
	for pc, types := range []string{"", "b", "bi", "b", "bb", "bbb", "bbbi", "bb", "b", "bi", "bii", "i"} {
		wantStack(t, list, []int{1, 2}, types, frameAt(0, pc))
		wantStack(t, list, []int{1, 2}, "ib"+types, frameAt(1, 3), frameAt(0, pc))
	}
}

// Six routines with a full stack each.
func TestCoreOKWithFullStacks(t *testing.T) {
	list := routinesOf("push 1; push 1; push 1; push 1; in 0; in 0; in 0; in 0; cut; out 0; out 0; out 0; out 0; store 0; store 0; store 0; store 0")
	frames := []impl.Frame{frameAt(0, 8)}
	for k := range 5 {
		code := slices.Clone(list[0].Code)
		code[8] = impl.Instr{Op: 26, A: k}
		list = append(list, impl.Routine{Code: code})
		frames = append(frames, frameAt(k+1, 9))
	}
	slices.Reverse(frames)
	for i := range frames {
		wantStack(t, list, nil, strings.Repeat("iiiibbbb", 6-i), frames[i:]...)
	}
}

// If VerifyAll rejects the routines, no core is valid, not even one without frames.
func TestCoreOKOfRejectedRoutines(t *testing.T) {
	list, c := callers()
	for _, core := range []impl.Core{{}, coreOf(nil, frameAt(0, 0)), c} {
		for _, kinds := range append(wrongKinds(), slices.Repeat([]int{1}, 9), make([]int, longestList+1), slices.Repeat([]int{1}, longestList+1)) {
			wantCore(t, list, kinds, core, false)
		}
		for _, text := range []string{"push 1", "end", "call 5", "value 0; store 0", "add", "repeat 5"} {
			wrong := slices.Clone(list)
			wrong[2] = routinesOf(text)[0]
			wantCore(t, wrong, nil, core, false)
		}
		wantCore(t, append(slices.Clone(list), impl.Routine{}), nil, core, false)
		wantCore(t, make([]impl.Routine, longestList), nil, core, false)
		wantCore(t, make([]impl.Routine, longestList+1), nil, core, false)
	}
	// Whether the blocks exist and of which kinds they are.
	timed := routinesOf("in 0; push 5; block 1; out 0")
	wantCore(t, timed, []int{1}, coreOf(nil, frameAt(0, 0)), false)
	wantCore(t, timed, []int{1, 2}, coreOf(nil, frameAt(0, 0)), false)
	wantCore(t, timed, []int{2, 1}, coreOf(nil, frameAt(0, 0)), true)
	wantCore(t, timed, fullKinds(), coreOf(nil, frameAt(0, 0)), false)
}

// callingRoutines are like acceptedRoutines, but some cuts are calls instead, and some of the routines have one more at their end.
func callingRoutines(r *rand.Rand, kinds []int, most int) []impl.Routine {
	list := acceptedRoutines(r, kinds, most)
	for k := 1; k < len(list); k++ {
		for i, x := range list[k].Code {
			if x.Op == 25 && r.Intn(2) > 0 {
				list[k].Code[i] = impl.Instr{Op: 26, A: r.Intn(k)}
			}
		}
		if len(list[k].Code) < 40 && r.Intn(2) > 0 {
			list[k].Code = append(list[k].Code, impl.Instr{Op: 26, A: r.Intn(k)})
		}
	}
	return list
}

// mixedCore returns a valid core of accepted routines, with counters and elements at and within the ends of their ranges.
func mixedCore(r *rand.Rand, list []impl.Routine, kinds []int) impl.Core {
	return mixedCoreOf(r, list, kinds, r.Intn(len(list)))
}

// mixedCoreOf has routine k in its first frame, if that has instructions.
func mixedCoreOf(r *rand.Rand, list []impl.Routine, kinds []int, k int) impl.Core {
	var c impl.Core
	for len(list[k].Code) > 0 {
		var calls []int
		for i, x := range list[k].Code {
			if x.Op == 26 && len(list[x.A].Code) > 0 {
				calls = append(calls, i)
			}
		}
		if len(calls) == 0 || r.Intn(4) == 0 {
			return withFrame(r, c, list, kinds, k, r.Intn(len(list[k].Code)))
		}
		i := calls[r.Intn(len(calls))]
		c = withFrame(r, c, list, kinds, k, i+1)
		k = list[k].Code[i].A
	}
	return impl.Core{}
}

func withFrame(r *rand.Rand, c impl.Core, list []impl.Routine, kinds []int, k, pc int) impl.Core {
	f := frameAt(k, pc)
	for _, at := range openAt(list[k].Code, pc) {
		a := list[k].Code[at].A
		f.Loops = append(f.Loops, []int{1, a, 1 + r.Intn(a)}[r.Intn(3)])
	}
	types, _ := impl.StackAt(list[k].Code, kinds, k, pc)
	return coreOf(append(c.Stack, mixedStack(r, types)...), append(c.Frames, f)...)
}

// changeOne changes one field by a little or by much, or the number of elements of a list.
func changeOne(r *rand.Rand, c impl.Core) impl.Core {
	c = copyOfCore(c)
	other := func(n int) int {
		return []int{n - 1, n + 1, 0, 1, -n, 2, largestValue + 1, math.MinInt}[r.Intn(8)]
	}
	resize := func(list []int) []int {
		if len(list) > 0 && r.Intn(2) > 0 {
			return list[:len(list)-1]
		}
		return append(list, r.Intn(3))
	}
	i := r.Intn(len(c.Frames))
	f := &c.Frames[i]
	switch r.Intn(8) {
	case 0:
		f.Routine = other(f.Routine)
	case 1:
		f.Pc = other(f.Pc)
	case 2:
		f.Loops = resize(f.Loops)
	case 3:
		if n := len(f.Loops); n > 0 {
			k := r.Intn(n)
			f.Loops[k] = other(f.Loops[k])
		}
	case 4:
		c.Stack = resize(c.Stack)
	case 5:
		if n := len(c.Stack); n > 0 {
			k := r.Intn(n)
			c.Stack[k] = other(c.Stack[k])
		}
	case 6:
		c.Frames = slices.Delete(c.Frames, i, i+1)
	case 7:
		c.Frames = slices.Insert(c.Frames, i, c.Frames[r.Intn(len(c.Frames))])
	}
	return c
}

func TestCoreOKOfRandomCores(t *testing.T) {
	r := rand.New(rand.NewSource(102))
	valid, invalid, deepest := 0, 0, 0
	for range 1500 {
		kinds := randomKinds(r)
		list := callingRoutines(r, kinds, 40)
		c := mixedCore(r, list, kinds)
		wantCore(t, list, kinds, c, true)
		deepest = max(deepest, len(c.Frames))
		for range 6 {
			if len(c.Frames) == 0 {
				break
			}
			d := changeOne(r, c)
			want := coreByRule(list, kinds, d)
			wantCore(t, list, kinds, d, want)
			if want {
				valid++
			} else {
				invalid++
			}
		}
	}
	if valid < 500 || invalid < 3000 || deepest < 4 {
		t.Error("changed cores that are valid:", valid, "and invalid:", invalid, "frames up to", deepest)
	}
}

func wantNewCore(t *testing.T, list []impl.Routine, kinds []int, routine int, want impl.Core) {
	t.Helper()
	c, code := impl.NewCore(list, kinds, routine)
	if code != 0 || !equalCores(c, want) || !impl.CoreOK(list, kinds, c) {
		t.Errorf("NewCore(%v, %v, %d) = %v, %d, want %v", list, kinds, routine, c, code, want)
	}
}

func wantNoCore(t *testing.T, list []impl.Routine, kinds []int, routine, want int) {
	t.Helper()
	if c, code := impl.NewCore(list, kinds, routine); code != want || !isZeroCore(c) {
		t.Errorf("NewCore(%s, %s, %d) = %v, %d, want code %d", brief(list), brief(kinds), routine, c, code, want)
	}
}

func TestNewCore(t *testing.T) {
	list, _ := callers()
	for k := range 6 {
		if k == 2 {
			// It has no instructions, so it is finished at its start.
			wantNewCore(t, list, nil, k, impl.Core{})
			continue
		}
		wantNewCore(t, list, nil, k, coreOf(nil, frameAt(k, 0)))
	}
	for n := 1; n <= 6; n++ {
		for k := range n {
			wantNewCore(t, make([]impl.Routine, n), nil, k, impl.Core{})
			wantNewCore(t, slices.Repeat(routinesOf("cut"), n), nil, k, coreOf(nil, frameAt(k, 0)))
		}
	}
	// What a routine begins with does not matter: nothing is executed yet.
	wantNewCore(t, routinesOf("", "call 0"), nil, 1, coreOf(nil, frameAt(1, 0)))
	wantNewCore(t, routinesOf("repeat 2; end"), nil, 0, coreOf(nil, frameAt(0, 0)))
	wantNewCore(t, routinesOf("value 0; store 0"), []int{3}, 0, coreOf(nil, frameAt(0, 0)))
	wantNewCore(t, routinesOf(loadOf(3004)), nil, 0, coreOf(nil, frameAt(0, 0)))
}

func TestNewCoreErrors(t *testing.T) {
	for n := range 7 {
		list := slices.Repeat(routinesOf("cut"), n)
		for _, k := range append(edgeInts(), n) {
			if k < 0 || k >= n {
				wantNoCore(t, list, nil, k, impl.ErrRange)
				wantNoCore(t, make([]impl.Routine, n), nil, k, impl.ErrRange)
			}
		}
	}
	// The codes of VerifyAll come first, also if the routine does not exist, and if it is not the one that is wrong.
	for _, list := range edgeRoutines() {
		for _, kinds := range edgeKinds() {
			_, _, want := impl.VerifyAll(list, kinds)
			for _, k := range []int{math.MinInt, -1, 0, 1, 2, 3, 6, math.MaxInt} {
				switch {
				case want != 0:
					wantNoCore(t, list, kinds, k, want)
				case k < 0 || k >= len(list):
					wantNoCore(t, list, kinds, k, impl.ErrRange)
				case len(list[k].Code) == 0:
					wantNewCore(t, list, kinds, k, impl.Core{})
				default:
					wantNewCore(t, list, kinds, k, coreOf(nil, frameAt(k, 0)))
				}
			}
		}
	}
}

func wantSameCore(t *testing.T, a, b impl.Core, want bool) {
	t.Helper()
	if impl.SameCore(a, b) != want || impl.SameCore(b, a) != want {
		t.Errorf("SameCore(%s, %s) is not %t", brief(a), brief(b), want)
	}
}

// otherCores holds cores that differ from c in exactly one place.
func otherCores(c impl.Core) []impl.Core {
	var list []impl.Core
	add := func(change func(*impl.Core)) { list = append(list, changedCore(c, change)) }
	for i, f := range c.Frames {
		for _, n := range []int{1, -1, 256, 1 << 32, math.MinInt} {
			add(func(c *impl.Core) { c.Frames[i].Routine += n })
			add(func(c *impl.Core) { c.Frames[i].Pc += n })
			for k := range f.Loops {
				add(func(c *impl.Core) { c.Frames[i].Loops[k] += n })
			}
		}
		add(func(c *impl.Core) { c.Frames[i].Loops = append(c.Frames[i].Loops, 0) })
		if n := len(f.Loops); n > 0 {
			add(func(c *impl.Core) { c.Frames[i].Loops = c.Frames[i].Loops[1:] })
			add(func(c *impl.Core) { c.Frames[i].Loops = c.Frames[i].Loops[:n-1] })
			add(func(c *impl.Core) { c.Frames[i].Loops = nil })
		}
		add(func(c *impl.Core) { c.Frames = slices.Delete(c.Frames, i, i+1) })
		add(func(c *impl.Core) { c.Frames = slices.Insert(c.Frames, i, impl.Frame{}) })
	}
	for i := range c.Stack {
		for _, n := range []int{1, -1, 256, 1 << 32, math.MinInt} {
			add(func(c *impl.Core) { c.Stack[i] += n })
		}
		add(func(c *impl.Core) { c.Stack = slices.Delete(c.Stack, i, i+1) })
	}
	add(func(c *impl.Core) { c.Stack = append(c.Stack, 0) })
	add(func(c *impl.Core) { c.Frames = append(c.Frames, impl.Frame{}) })
	add(func(c *impl.Core) { c.Frames = nil })
	add(func(c *impl.Core) { c.Stack = nil })
	return list
}

func TestSameCore(t *testing.T) {
	_, c := callers()
	// Whether a core is valid, and in what routines, does not matter.
	wild := coreOf([]int{math.MaxInt, 0, -1}, frameAt(math.MinInt, -7, 0, math.MaxInt), frameAt(9, 1<<40), frameAt(0, 0, -1, -2, -3, -4))
	for _, a := range []impl.Core{c, wild, coreOf([]int{3}, frameAt(1, 2, 3))} {
		wantSameCore(t, a, a, true)
		wantSameCore(t, a, copyOfCore(a), true)
		for _, b := range otherCores(a) {
			wantSameCore(t, a, b, false)
		}
	}
	swapped := changedCore(c, func(c *impl.Core) { slices.Reverse(c.Frames) })
	wantSameCore(t, c, swapped, false)
}

func TestSameCoreOfEmptyLists(t *testing.T) {
	empties := []impl.Core{{}, {Frames: []impl.Frame{}}, {Stack: []int{}}, {Frames: []impl.Frame{}, Stack: []int{}}}
	for _, a := range empties {
		for _, b := range empties {
			wantSameCore(t, a, b, true)
		}
		wantSameCore(t, a, coreOf(nil, impl.Frame{}), false)
		wantSameCore(t, a, coreOf([]int{0}), false)
	}
	wantSameCore(t, coreOf(nil, impl.Frame{}), coreOf([]int{}, impl.Frame{Loops: []int{}}), true)
	wantSameCore(t, coreOf(nil, impl.Frame{}), coreOf([]int{}, impl.Frame{Loops: []int{0}}), false)
}

// Equal cores at their largest sizes, and with one element more than that.
func TestSameCoreBySize(t *testing.T) {
	for _, n := range []int{0, 1, 5, 6, 7, 8, 12, 256, longestList, longestList + 1} {
		a := coreOf(nil, make([]impl.Frame, n)...)
		wantSameCore(t, a, copyOfCore(a), n <= 6)
		wantSameCore(t, a, a, n <= 6)
	}
	for _, n := range []int{0, 1, 8, 9, 47, 48, 49, 50, 256, longestList, longestList + 1} {
		a := coreOf(make([]int, n))
		wantSameCore(t, a, copyOfCore(a), n <= 48)
	}
	for _, n := range []int{0, 1, 3, 4, 5, 6, 256, longestList, longestList + 1} {
		for i := range 6 {
			a := coreOf(make([]int, 48), make([]impl.Frame, 6)...)
			a.Frames[i].Loops = make([]int, n)
			wantSameCore(t, a, copyOfCore(a), n <= 4)
		}
	}
	// Only one of both is too large.
	wantSameCore(t, coreOf(nil, make([]impl.Frame, 6)...), coreOf(nil, make([]impl.Frame, 7)...), false)
	wantSameCore(t, coreOf(make([]int, 48)), coreOf(make([]int, 49)), false)
	wantSameCore(t, coreOf(nil, frameAt(0, 0, 1, 1, 1, 1)), coreOf(nil, frameAt(0, 0, 1, 1, 1, 1, 1)), false)
}
