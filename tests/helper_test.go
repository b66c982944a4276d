package tests

import (
	"fmt"
	"math"
	"slices"
	"strings"
	"testing"

	"loop.example/g00684/impl"
)

// values of chapter 1.7, written out so that a wrong constant does not change what the tests expect
const (
	smallestValue = -2147483648
	largestValue  = 2147483647
	longestText   = 65536
	longestList   = 4096
)

// edgeInts holds integers at and beyond every limit of the first three chapters.
func edgeInts() []int {
	list := []int{math.MinInt, math.MinInt + 1, math.MaxInt, math.MaxInt - 1}
	for _, shift := range []uint{7, 8, 15, 16, 31, 32, 33, 40, 48, 56, 61, 62} {
		for d := -2; d <= 2; d++ {
			list = append(list, 1<<shift+d, -1<<shift+d)
		}
	}
	for n := -3; n <= 42; n++ {
		list = append(list, n)
	}
	return list
}

// edgeTexts holds strings at and beyond the limits of lengths.
func edgeTexts() []string {
	var list []string
	for _, n := range []int{0, 1, 2, 3, 4, 9, 10, 11, 19, 20, 21, 32767, 32768, 32769, 65525, 65526, 65527, 65535, 65536, 65537, 65538, 200000} {
		list = append(list, strings.Repeat("a", n), strings.Repeat("\xff", n), strings.Repeat("\x00", n))
	}
	return append(list, "ok", "cut", "PLC1", "PLC1\x00\x00\x00\x00\xf6\x7d", "00ff", "0G", "_a9", "9a", "\xc3\xa9",
		"push -5", " call  5 ", "add", "add 0", "load 16", strings.Repeat(" ", longestText-3)+"add", strings.Repeat(" ", longestText-2)+"add",
		"\x01\xfe\xff\xff\xff\x11", "\x01\xfe\xff", "\x02\x02\x00\x00\x00", strings.Repeat("\x11", 40), strings.Repeat("\x11", 41), strings.Repeat("\x11", longestText), strings.Repeat("\x11", longestText+1),
		goodFrame(payloadOf(plainProgram())), goodFrame(payloadOf(fullProgram())), goodFrame(payloadOf(busyProgram())), goodFrame(payloadOf(easyProgram())), goodFrame(payloadOf(queued(9, 1))), goodFrame(payloadOf(overloads()[0].program)), goodFrame(payloadOf(fullProgram())+"x"), goodFrame("\x00\x01\xff\xff"+strings.Repeat("\x19", 65000)), goodFrame("\x00\x01\xff\x7f"+strings.Repeat("\x19", 32767)),
		goodFrame("\xff\xff"), goodFrame("\x00\x80"), goodFrame("\x00\x00\xff"), goodFrame(mixedText(longestText-10)))
}

// edgeCode holds lists of instructions, valid and invalid, at and beyond the limits of lengths.
func edgeCode() [][]impl.Instr {
	list := [][]impl.Instr{nil, {}, {{Op: math.MinInt, A: math.MaxInt}}, {{Op: 1, A: -2}, {Op: 17}, {Op: 4, A: 3}}, {{Op: 9, A: 1}},
		parse("push 7; in 1; if; push 1; push 2; less; out 0; else; repeat 2; call 1; call 0; end; end; store 1"),
		parse("in 0; in 1; push 3; block 1; if; value 1; store 0"), parse("repeat 1; else; else; end; end; call 5; call 5"),
		slices.Repeat(parse("push 1"), 9), slices.Repeat(parse("repeat 1"), 5)}
	for _, n := range []int{1, 2, 39, 40, 41, longestList - 1, longestList, longestList + 1, 20000} {
		for _, x := range []impl.Instr{{}, {Op: 17}, {Op: 1, A: largestValue}, {Op: 1, A: math.MinInt}, {Op: math.MaxInt}} {
			list = append(list, slices.Repeat([]impl.Instr{x}, n))
		}
	}
	return list
}

// edgeIndices holds indices in code, and at and beyond its ends.
func edgeIndices() []int {
	return []int{math.MinInt, -1, 0, 1, 2, 5, 8, 39, 40, 41, longestList, longestList + 1, math.MaxInt}
}

// edgeKinds holds lists of kinds, valid and invalid, at and beyond the limits of lengths.
func edgeKinds() [][]int {
	list := [][]int{nil, {}, {1}, {1, 2, 3, 4}, {4, 3, 2, 1, 1, 2, 3, 4}, {0}, {5}, {1, 2, math.MinInt}, {math.MaxInt}}
	for _, n := range []int{9, longestList, longestList + 1} {
		list = append(list, slices.Repeat([]int{2}, n))
	}
	return list
}

// edgeRoutines holds lists of routines, valid and invalid, at and beyond the limits of lengths.
func edgeRoutines() [][]impl.Routine {
	list := [][]impl.Routine{nil, {}, routinesOf("cut", "call 0", "call 1; call 0"), routinesOf("cut", "call 1"), routinesOf("add", "in 0; push 1; block 0; out 0"),
		routinesOf("in 0; if; cut; else; repeat 20; load 0; store 0; end; end", "repeat 20; call 0; in 1; if; cut; end; end", "repeat 20; repeat 20; call 1; call 0; end; end")}
	for _, n := range []int{1, 6, 7, longestList, longestList + 1} {
		list = append(list, make([]impl.Routine, n), slices.Repeat(routinesOf("push 1"), n))
	}
	for _, code := range edgeCode() {
		list = append(list, []impl.Routine{{}, {Code: code}, {Code: slices.Clone(code)}})
	}
	return list
}

// edgeTasks holds tasks, valid and invalid, with every field at and beyond the limits of integers.
func edgeTasks() []impl.Task {
	list := []impl.Task{{}, cyclic(9, 9, 0), cyclic(9, 9, 5), cyclic(9, 10, 0), event(9, 10, 7, 4, 1)}
	for i := range 6 {
		for _, n := range edgeInts() {
			for _, x := range []impl.Task{cyclic(3000, 2000, 3), event(2000, 3000, 3, 2, 3)} {
				*taskFields(&x)[i] = n
				list = append(list, x)
			}
		}
	}
	return list
}

// edgePrograms holds programs, valid and invalid, with every list at and beyond the limits of lengths.
func edgePrograms() []impl.Program {
	list := []impl.Program{{}, plainProgram(), fullProgram(), easyProgram(), demoByHand(), programOf(nil, nil), programOf(nil, make([]impl.Routine, 1), cyclic(1, 1, 0)),
		{Kinds: []int{}, Routines: []impl.Routine{}, Tasks: []impl.Task{}, Safe: []bool{}}}
	add := func(change func(*impl.Program)) { list = append(list, changedProgram(plainProgram(), change)) }
	for _, kinds := range edgeKinds() {
		add(func(p *impl.Program) { p.Kinds = kinds })
	}
	for _, routines := range edgeRoutines() {
		add(func(p *impl.Program) { p.Routines = routines })
	}
	for i, x := range edgeTasks() {
		if i%7 == 0 {
			add(func(p *impl.Program) { p.Tasks[2] = x })
		}
	}
	for _, n := range []int{0, 1, 5, 6, longestList, longestList + 1} {
		add(func(p *impl.Program) { p.Tasks = make([]impl.Task, n) })
		add(func(p *impl.Program) { p.Tasks = slices.Repeat([]impl.Task{cyclic(9, 9, 1)}, n) })
	}
	for _, n := range []int{0, 7, 8, 9, longestList, longestList + 1} {
		add(func(p *impl.Program) { p.Safe = make([]bool, n) })
	}
	return list
}

// edgeWork holds lists of costs or of periods, valid and invalid, at and beyond the limits of lengths.
func edgeWork() [][]int {
	list := [][]int{nil, {}, {0}, {1}, {5000}, {5001}, {math.MinInt}, {math.MaxInt}, {10, 20}, {50, 60}, {0, 0, 0, 0, 0}, {10, 20, 30, 40, 50}, {300, 250, 200, 350, 400}, {1, 2, 3, 4, math.MinInt}, {math.MaxInt, 1, 1, 1, 1}}
	for _, n := range []int{5, 6, longestList - 1, longestList, longestList + 1, 20000} {
		list = append(list, slices.Repeat([]int{100}, n), slices.Repeat([]int{math.MaxInt}, n))
	}
	return list
}

// edgePins holds lists of pins at and beyond the limits of lengths.
func edgePins() [][]bool {
	list := [][]bool{nil, {}, pinsOn(), pinsOn(0, 3, 7), pinsOn(0, 1, 2, 3, 4, 5, 6, 7)}
	for _, n := range []int{1, 7, 9, 256, longestList - 1, longestList, longestList + 1, 20000} {
		list = append(list, make([]bool, n), slices.Repeat([]bool{true}, n))
	}
	return list
}

// edgeScripts holds scripts at and beyond the limits of lengths, of their own and of their elements.
func edgeScripts() [][][]bool {
	list := [][][]bool{nil, {}, {nil}, {pinsOn(0, 1), {}}, {make([]bool, longestList+1)}, make([][]bool, longestList), make([][]bool, longestList+1)}
	for _, n := range []int{1, 2, 7, 50, longestList - 1, longestList, longestList + 1} {
		list = append(list, scriptOf(n, 0, 2), scriptOf(n))
	}
	return list
}

// plcLists returns a function for each list in a processor with jobs, which gives it n elements.
func plcLists(x *impl.Plc) []func(n int) {
	p, d, j, s := &x.Program, &x.Data, &x.Jobs[0], &x.Sources[0]
	return []func(int){
		listChange(&p.Kinds), listChange(&p.Routines), listChange(&p.Routines[0].Code), listChange(&p.Tasks), listChange(&p.Safe),
		listChange(&d.Globals), listChange(&d.Blocks), listChange(&d.Latched), listChange(&d.Pins), listChange(&d.Outs), listChange(&d.Wires),
		listChange(&x.Sources), listChange(&s.Queue), listChange(&x.Jobs), listChange(&j.Latched), listChange(&j.Outs), listChange(&j.First),
		listChange(&j.Core.Stack), listChange(&j.Core.Frames), listChange(&j.Core.Frames[1].Loops), listChange(&x.Log),
	}
}

// listChange repeats the elements of a list, or leaves the last ones out.
func listChange[E any](list *[]E) func(n int) {
	return func(n int) { *list = slices.Repeat(*list, n/len(*list)+1)[:n] }
}

// otherNumbers returns numbers in a processor with jobs that busyNumbers does not have.
func otherNumbers(x *impl.Plc) []*int {
	code, f, frame := &x.Program.Routines[0].Code[1], &x.Data.Blocks[0], &x.Jobs[3].Core.Frames[0]
	list := []*int{&x.Program.Kinds[0], &code.Op, &code.A, &x.Data.Globals[3], &f.Kind, &f.Start, &f.Count, &x.Data.Blocks[1].Count, &frame.Routine, &frame.Pc, &x.Jobs[3].Core.Stack[0]}
	for k := range x.Program.Tasks {
		list = append(list, taskFields(&x.Program.Tasks[k])...)
	}
	return list
}

// edgePlcs holds processors, valid and invalid, with every number and every list at and beyond its limits.
func edgePlcs() []impl.Plc {
	list := []impl.Plc{{}, {Mode: 1}, busyPlc(), idlePlc(), restingPlc(), newPlc(impl.DemoProgram()), newPlc(fullProgram()), newPlc(overloads()[0].program)}
	first := busyPlc()
	for i := range busyNumbers(&first) {
		for _, n := range []int{math.MinInt, -1, 0, largestValue, largestValue + 1, math.MaxInt} {
			list = append(list, changedPlc(first, func(x *impl.Plc) { *busyNumbers(x)[i].field = n }))
		}
	}
	for i := range otherNumbers(&first) {
		for _, n := range []int{math.MinInt, -1, 0, largestValue, math.MaxInt} {
			list = append(list, changedPlc(first, func(x *impl.Plc) { *otherNumbers(x)[i] = n }))
		}
	}
	for i := range plcLists(&first) {
		for _, n := range []int{0, 1, 7, 40, 41, longestList, longestList + 1} {
			list = append(list, changedPlc(first, func(x *impl.Plc) { plcLists(x)[i](n) }))
		}
	}
	for _, n := range []int{largestValue - 49, largestValue - 1, largestValue} {
		for _, base := range []impl.Plc{busyPlc(), restingPlc()} {
			list = append(list, changedPlc(base, func(x *impl.Plc) { x.Now = n }))
		}
	}
	return append(list, changedPlc(first, func(x *impl.Plc) { x.Jobs, x.Log, x.Busy = []impl.Job{}, []impl.Done{}, false }))
}

// edgeFbs holds function blocks, valid and invalid, at and beyond the ends of the ranges of their fields.
func edgeFbs() []impl.Fb {
	return append(validFbs(), invalidFbs()...)
}

// edgeStacks holds stacks, with and without values, at and beyond the limits of lengths.
func edgeStacks() [][]int {
	list := [][]int{nil, {}, {1}, {2}, {0, 1}, {1, 0, 5}, {7, 1, largestValue, 1}, {math.MaxInt, 0, 0, 0}, {0, 0, math.MinInt}}
	for _, n := range []int{7, 8, 9, 10, 11, longestList - 1, longestList, longestList + 1} {
		list = append(list, slices.Repeat([]int{1}, n))
	}
	return list
}

// edgeCores holds cores, valid ones of callers and others, with fields and lists at and beyond their limits.
func edgeCores() []impl.Core {
	_, c := callers()
	list := []impl.Core{c, {}, {Frames: []impl.Frame{}, Stack: []int{}}, coreOf([]int{1}), coreOf(nil, frameAt(0, 0)), coreOf(nil, frameAt(1, 0)), coreOf(nil, frameAt(5, 1), frameAt(4, 0)),
		coreOf([]int{4, 1}, frameAt(1, 2)), coreOf([]int{4, 1}, frameAt(1, 3, 3)), coreOf([]int{4, 1}, frameAt(1, 3, 4)), coreOf([]int{4, 2}, frameAt(1, 3, 3)), coreOf([]int{math.MaxInt}, frameAt(0, 1)),
		coreOf(nil, make([]impl.Frame, 6)...), coreOf(nil, make([]impl.Frame, 7)...), coreOf(make([]int, 48), frameAt(0, 1)), coreOf(make([]int, 49), frameAt(0, 1))}
	for _, n := range []int{math.MinInt, -1, 6, 40, 41, math.MaxInt} {
		list = append(list, coreOf(nil, frameAt(n, 0)), coreOf(nil, frameAt(0, n)), coreOf(nil, frameAt(n, n), frameAt(n, n)), coreOf([]int{0, n}, frameAt(1, 6, n, n)))
	}
	for _, n := range []int{longestList, longestList + 1} {
		list = append(list, coreOf(nil, make([]impl.Frame, n)...), coreOf(make([]int, n), frameAt(0, 1)), coreOf(nil, frameAt(0, 0, make([]int, n)...)))
	}
	return list
}

// edgeInstrs holds instructions of every operation, and invalid ones.
func edgeInstrs() []impl.Instr {
	list := []impl.Instr{{}, {Op: 27}, {Op: math.MinInt}, {Op: math.MaxInt, A: math.MinInt}, {Op: 9, A: 1}, {Op: 19, A: 8}, {Op: 1, A: largestValue + 1}}
	for _, row := range opTable() {
		list = append(list, impl.Instr{Op: row.number, A: max(row.low, 0)}, impl.Instr{Op: row.number, A: row.high})
	}
	return list
}

// edgeTimes holds times at and beyond the ends of their range.
func edgeTimes() []int {
	return []int{math.MinInt, -1, 0, largestValue - 1, largestValue, largestValue + 1, math.MaxInt}
}

func isValue(n int) bool {
	return n >= smallestValue && n <= largestValue
}

// allBytes returns the 256 bytes in their order.
func allBytes() string {
	b := make([]byte, 256)
	for i := range b {
		b[i] = byte(i)
	}
	return string(b)
}

func shown(x any) string {
	return fmt.Sprint(x)
}

// short keeps messages about long texts readable.
func short(t string) string {
	if len(t) > 40 {
		return t[:40] + ".."
	}
	return t
}

// brief is for messages about structures.
func brief(x any) string {
	t := shown(x)
	if len(t) > 300 {
		return t[:300] + ".."
	}
	return t
}

// mixedText returns n bytes that repeat with no period dividing a power of two.
func mixedText(n int) string {
	b := make([]byte, n)
	state := uint32(n + 1)
	for i := range b {
		state = state*1664525 + 1013904223
		b[i] = byte(state >> 24)
	}
	return string(b)
}

func TestMixedTextUsesAllBytes(t *testing.T) {
	s := mixedText(longestText)
	for i := range 256 {
		if strings.IndexByte(s, byte(i)) < 0 {
			t.Error("no byte", i)
		}
	}
}
