package tests

import (
	"math"
	"slices"
	"strings"
	"testing"

	"loop.example/g00684/impl"
)

func TestLimitsOfChapter5(t *testing.T) {
	if impl.MaxStack != 8 || impl.MaxDepth != 4 {
		t.Error("limits", impl.MaxStack, impl.MaxDepth)
	}
}

// pushing returns code that pushes elements of these types, deepest first; popping returns code that pops them.
func pushing(types string) []impl.Instr {
	return byType(types, impl.Instr{Op: 1, A: 7}, impl.Instr{Op: 2, A: 1})
}

func popping(types string) []impl.Instr {
	code := byType(types, impl.Instr{Op: 4, A: 3}, impl.Instr{Op: 6, A: 3})
	slices.Reverse(code)
	return code
}

func byType(types string, value, boolean impl.Instr) []impl.Instr {
	code := make([]impl.Instr, len(types))
	for i := range code {
		code[i] = boolean
		if types[i] == 'i' {
			code[i] = value
		}
	}
	return code
}

// stacksUpTo returns all stacks of at most n types.
func stacksUpTo(n int) []string {
	list := []string{""}
	for at := 0; at < len(list); at++ {
		if len(list[at]) < n {
			list = append(list, list[at]+"i", list[at]+"b")
		}
	}
	return list
}

// plainRow is an instruction without a structure, with its effect.
type plainRow struct {
	x            impl.Instr
	takes, gives string
}

// plainRows holds every operation that opens and closes nothing, and block for each kind of allKinds.
func plainRows() []plainRow {
	var list []plainRow
	for _, row := range effectTable() {
		if row.op < 21 || row.op > 24 {
			list = append(list, plainRow{impl.Instr{Op: row.op}, row.takes, row.gives})
		}
	}
	for a, takes := range []string{"bi", "bbi", "b", "bb"} {
		list = append(list, plainRow{impl.Instr{Op: 19, A: a}, takes, "b"})
	}
	return list
}

func allKinds() []int {
	return []int{1, 2, 3, 4}
}

// outcome is the code of popping takes from own.
func outcome(own, takes string) int {
	if len(own) < len(takes) {
		return impl.ErrStack
	}
	if !strings.HasSuffix(own, takes) {
		return impl.ErrType
	}
	return 0
}

// Every operation on every stack of up to five elements: what is too little, what has another type, and what is left.
func TestOperandsOfEveryOp(t *testing.T) {
	for _, row := range plainRows() {
		for _, own := range stacksUpTo(5) {
			code := append(pushing(own), row.x)
			c := outcome(own, row.takes)
			if c != 0 {
				wantVerify(t, code, allKinds(), 1, verdict{len(own), c})
				continue
			}
			rest := strings.TrimSuffix(own, row.takes) + row.gives
			code = append(code, popping(rest)...)
			wantVerify(t, code, allKinds(), 1, verdict{})
			if s, c := impl.StackAt(code, allKinds(), 1, len(own)+1); s != rest || c != 0 {
				t.Errorf("%v leaves %q of %q, want %q", row.x, s, own, rest)
			}
		}
	}
}

// An opening is code that leaves structures open and nothing on the stack, with what closes them.
type opening struct{ before, after string }

func openings() []opening {
	return []opening{
		{"in 0; if", "end"},
		{"in 0; if", "else; end"},
		{"in 0; if; else", "end"},
		{"in 0; if; push 1; store 0; else", "end"},
		{"in 0; if; in 0; if; else; end; else", "end"},
		{"repeat 20", "end"},
		{"repeat 1; in 0; if", "end; end"},
		{"in 0; if; repeat 2", "end; else; end"},
	}
}

// No operation takes an element that was on the stack when the structure was opened, of whatever type it is.
func TestOperandsBelowABranch(t *testing.T) {
	for _, row := range plainRows() {
		for _, below := range stacksUpTo(3) {
			for _, own := range stacksUpTo(3) {
				for _, o := range openings() {
					before := slices.Concat(pushing(below), parse(o.before), pushing(own))
					code := append(before, row.x)
					c := outcome(own, row.takes)
					if c != 0 {
						wantVerify(t, code, allKinds(), 1, verdict{len(before), c})
						continue
					}
					rest := strings.TrimSuffix(own, row.takes) + row.gives
					code = slices.Concat(code, popping(rest), parse(o.after), popping(below))
					wantVerify(t, code, allKinds(), 1, verdict{})
				}
			}
		}
	}
}

// The operand of an if is popped before the structure is opened, so it must not be below an outer one either.
func TestOperandOfAnIf(t *testing.T) {
	for _, o := range append(openings(), opening{}) {
		outer := parse(o.before)
		for _, v := range []struct {
			below, own string
			code       int
		}{
			{"", "", impl.ErrStack}, {"", "i", impl.ErrType}, {"", "bi", impl.ErrType}, {"", "b", 0}, {"", "ib", 0},
			{"b", "i", impl.ErrType}, {"b", "b", 0}, {"i", "b", 0}, {"bb", "ibb", 0},
		} {
			before := slices.Concat(pushing(v.below), outer, pushing(v.own))
			code := append(before, parse("if")...)
			if v.code != 0 {
				wantVerify(t, code, nil, 0, verdict{len(before), v.code})
				continue
			}
			rest := strings.TrimSuffix(v.own, "b")
			for _, inner := range []string{"end", "else; end", "push 1; store 0; else; in 0; out 0; end"} {
				all := slices.Concat(code, parse(inner), popping(rest), parse(o.after), popping(v.below))
				wantVerify(t, all, nil, 0, verdict{})
			}
		}
	}
	for _, o := range openings() {
		before := slices.Concat(pushing("b"), parse(o.before))
		wantVerify(t, append(before, parse("if; end")...), nil, 0, verdict{len(before), impl.ErrStack})
	}
}

// else and end ask for exactly the stack at which the structure was opened, whatever is below.
func TestStackAtElseAndEnd(t *testing.T) {
	for _, v := range []struct{ before, after string }{
		{"in 0; if", "else; end"},
		{"in 0; if", "end"},
		{"in 0; if; else", "end"},
		{"repeat 3", "end"},
		{"repeat 3; in 0; if", "else; end; end"},
		{"repeat 3; in 0; if", "end; end"},
		{"in 0; if; repeat 3", "end; else; end"},
	} {
		for _, below := range stacksUpTo(3) {
			for _, own := range stacksUpTo(3) {
				before := slices.Concat(pushing(below), parse(v.before), pushing(own))
				want := verdict{}
				if own != "" {
					want = verdict{len(before), impl.ErrStack}
				}
				wantVerify(t, slices.Concat(before, parse(v.after), popping(below)), nil, 0, want)
			}
		}
	}
}

func TestStackBelowABranch(t *testing.T) {
	// An equal stack made of other elements is not possible, a lower one neither: the element below cannot be popped.
	wantVerify(t, parse("push 1; repeat 2; store 0; push 2; end; store 0"), nil, 0, verdict{2, impl.ErrStack})
	wantVerify(t, parse("in 1; in 0; if; out 0; in 2; else; end; out 0"), nil, 0, verdict{3, impl.ErrStack})
	wantVerify(t, parse("push 1; in 0; if; else; store 0; push 1; end; store 0"), nil, 0, verdict{4, impl.ErrStack})
	wantVerify(t, parse("push 1; repeat 2; in 0; if; store 0; end; end"), nil, 0, verdict{4, impl.ErrStack})
	// What each branch leaves is wrong even if both leave the same.
	wantVerify(t, parse("in 0; if; push 1; else; push 2; end; store 0"), nil, 0, verdict{3, impl.ErrStack})
	wantVerify(t, parse("repeat 2; push 1; end; store 0; store 0"), nil, 0, verdict{2, impl.ErrStack})
	// Behind its end the elements below a structure can be taken again.
	wantVerify(t, parse("push 1; push 2; repeat 2; cut; end; add; in 0; if; cut; else; cut; end; store 0"), nil, 0, verdict{})
	// A block cannot take them either.
	wantVerify(t, parse("in 0; push 5; repeat 2; block 0; out 0; end"), []int{1}, 0, verdict{3, impl.ErrStack})
	wantVerify(t, parse("in 0; repeat 2; push 5; block 0; out 0; end"), []int{1}, 0, verdict{3, impl.ErrStack})
	wantVerify(t, parse("in 0; repeat 2; in 1; push 5; block 0; out 0; end; out 1"), []int{1}, 0, verdict{})
}

func TestNesting(t *testing.T) {
	for _, v := range []struct {
		text string
		want verdict
	}{
		{"end", verdict{0, impl.ErrNest}},
		{"else", verdict{0, impl.ErrNest}},
		{"cut; end", verdict{1, impl.ErrNest}},
		{"in 0; if; end; end", verdict{3, impl.ErrNest}},
		{"in 0; if; end; else", verdict{3, impl.ErrNest}},
		{"in 0; if; else; end; end", verdict{4, impl.ErrNest}},
		{"in 0; if; else; end; else; end", verdict{4, impl.ErrNest}},
		{"repeat 2; end; end", verdict{2, impl.ErrNest}},
		{"repeat 2; repeat 2; end; end; end", verdict{4, impl.ErrNest}},
		{"in 0; if; else; else", verdict{3, impl.ErrNest}},
		{"in 0; if; else; else; end", verdict{3, impl.ErrNest}},
		{"in 0; if; else; cut; else; end", verdict{4, impl.ErrNest}},
		{"in 0; if; else; in 0; if; else; end; else; end", verdict{7, impl.ErrNest}},
		{"repeat 1; else", verdict{1, impl.ErrNest}},
		{"in 0; if; repeat 1; else; end; end", verdict{3, impl.ErrNest}},
		{"repeat 1; in 0; if; end; else; end", verdict{4, impl.ErrNest}},
		{"in 0; if; repeat 1; end; else; end", verdict{}},
		{"in 0; if; in 0; if; else; end; else; end", verdict{}},
		{"in 0; if; else; in 0; if; else; end; end", verdict{}},
		{"in 0; if; in 0; if; end; else; end", verdict{}},
		{"in 0; if; end; in 0; if; else; end", verdict{}},
		{"repeat 20; repeat 20; repeat 20; repeat 20; cut; end; end; end; end", verdict{}},
		// never closed: the innermost open structure, wherever its else is
		{"repeat 1", verdict{0, impl.ErrNest}},
		{"in 0; if", verdict{1, impl.ErrNest}},
		{"in 0; if; else", verdict{1, impl.ErrNest}},
		{"cut; in 0; if; cut; else; cut", verdict{2, impl.ErrNest}},
		{"repeat 1; repeat 1; end", verdict{0, impl.ErrNest}},
		{"repeat 1; repeat 1", verdict{1, impl.ErrNest}},
		{"repeat 1; repeat 1; end; repeat 1", verdict{3, impl.ErrNest}},
		{"in 0; if; in 0; if; else; end; else", verdict{1, impl.ErrNest}},
		{"in 0; if; in 0; if; end; else; repeat 2", verdict{6, impl.ErrNest}},
		{"repeat 1; repeat 1; repeat 1; repeat 1; end; end; end", verdict{0, impl.ErrNest}},
		// also if elements are left, inside of it or below
		{"repeat 1; push 1", verdict{0, impl.ErrNest}},
		{"push 1; repeat 1", verdict{1, impl.ErrNest}},
		{"push 1; push 1; repeat 1; push 1; in 0; if; push 1; in 3", verdict{5, impl.ErrNest}},
		{"push 1; repeat 1; end", verdict{3, impl.ErrStack}},
	} {
		if got := checkVerify(t, parse(v.text), nil, 0); got != v.want {
			t.Error("the reference has", got, "for", v.text)
		}
		wantVerify(t, parse(v.text), nil, 0, v.want)
	}
}

// Four structures of any kinds and in any branches may be open, not five; closed ones do not count.
func TestDepth(t *testing.T) {
	parts := []opening{{"in 0; if", "end"}, {"in 0; if; else", "end"}, {"repeat 2", "end"}, {"repeat 2; end; repeat 3", "end"}}
	for n := range 256 {
		before, after := "", ""
		for digits, i := n, 0; i < 4; digits, i = digits/4, i+1 {
			before += parts[digits%4].before + ";"
			after += ";" + parts[digits%4].after
		}
		open := parse(before)
		wantVerify(t, parse(before+"cut"+after), nil, 0, verdict{})
		for _, v := range []struct {
			text string
			want verdict
		}{
			{"repeat 1; end", verdict{len(open), impl.ErrDepth}},
			{"in 0; if; end", verdict{len(open) + 1, impl.ErrDepth}},
			{"repeat 1", verdict{len(open), impl.ErrDepth}},
			{"if; end", verdict{len(open), impl.ErrStack}},
			{"push 1; if; end", verdict{len(open) + 1, impl.ErrType}},
			{"end; repeat 1; end; repeat 1", verdict{}},
		} {
			wantVerify(t, parse(before+v.text+after), nil, 0, v.want)
		}
	}
	wantVerify(t, parse(strings.Repeat("repeat 1; end;", 20)), nil, 0, verdict{})
	wantVerify(t, parse(strings.Repeat("in 0; if; else; end;", 10)), nil, 0, verdict{})
	wantVerify(t, parse(strings.Repeat("repeat 1;", 40)), nil, 0, verdict{4, impl.ErrDepth})
}

// Eight elements fit, those below a structure included; the ninth does not, whatever pushes it.
func TestStackOfMaxElements(t *testing.T) {
	fill := func(n int) string { return strings.Repeat("i", n) }
	for n := 0; n <= 12; n++ {
		want := verdict{}
		if n > 8 {
			want = verdict{8, impl.ErrFull}
		}
		wantVerify(t, append(pushing(fill(n)), popping(fill(n))...), nil, 0, want)
	}
	for _, row := range plainRows() {
		for n := 0; n <= 8-len(row.takes); n++ {
			own := fill(n) + row.takes
			before := pushing(own)
			after := fill(n) + row.gives
			want := verdict{}
			if len(after) > 8 {
				want = verdict{len(own), impl.ErrFull}
			}
			wantVerify(t, slices.Concat(before, []impl.Instr{row.x}, popping(after)), allKinds(), 1, want)
		}
	}
	for below := 0; below <= 7; below++ {
		for _, o := range openings() {
			free := 8 - below
			before := append(pushing(fill(below)), parse(o.before)...)
			after := append(parse(o.after), popping(fill(below))...)
			wantVerify(t, slices.Concat(before, pushing(fill(free)), popping(fill(free)), after), nil, 0, verdict{})
			code := slices.Concat(before, pushing(fill(free+1)))
			wantVerify(t, code, nil, 0, verdict{len(code) - 1, impl.ErrFull})
		}
	}
	full := pushing(fill(8))
	wantVerify(t, append(full, parse("repeat 2; cut; end; repeat 1; push 1; end")...), nil, 0, verdict{12, impl.ErrFull})
	wantVerify(t, append(full, parse("in 0; if; end")...), nil, 0, verdict{8, impl.ErrFull})
	wantVerify(t, append(full, parse("store 0; in 0; if; cut; else; cut; end")...), nil, 0, verdict{15, impl.ErrStack})
}

// At the end of the code nothing may be left, whatever its type; the index is that behind the code.
func TestLeftElements(t *testing.T) {
	for _, own := range stacksUpTo(8) {
		want := verdict{len(own), impl.ErrStack}
		if own == "" {
			want = verdict{}
		}
		wantVerify(t, pushing(own), nil, 0, want)
	}
	wantVerify(t, append(parse("push 1"), slices.Repeat(parse("cut"), 39)...), nil, 0, verdict{40, impl.ErrStack})
	wantVerify(t, append(slices.Repeat(parse("cut"), 39), parse("push 1")...), nil, 0, verdict{40, impl.ErrStack})
}

// Every block, value and call, with every number of function blocks and routines.
func TestMissingBlocksAndRoutines(t *testing.T) {
	for a := range 8 {
		for n := range 9 {
			kinds := slices.Repeat([]int{3}, n)
			block := []impl.Instr{{Op: 5}, {Op: 19, A: a}, {Op: 6}}
			value := []impl.Instr{{Op: 20, A: a}, {Op: 4}}
			lone := []impl.Instr{{Op: 25}, {Op: 19, A: a}} // its operands are missing too, which counts less
			if a < n {
				wantVerify(t, block, kinds, 0, verdict{})
				wantVerify(t, value, kinds, 0, verdict{})
				wantVerify(t, lone, kinds, 0, verdict{1, impl.ErrStack})
				continue
			}
			wantVerify(t, block, kinds, 0, verdict{1, impl.ErrNone})
			wantVerify(t, value, kinds, 0, verdict{0, impl.ErrNone})
			wantVerify(t, lone, kinds, 0, verdict{1, impl.ErrNone})
		}
	}
	for a := range 6 {
		for routines := range 7 {
			want := verdict{}
			if a >= routines {
				want = verdict{1, impl.ErrCall}
			}
			wantVerify(t, []impl.Instr{{Op: 25}, {Op: 26, A: a}, {Op: 26, A: a}}, nil, routines, want)
		}
	}
	// The number of blocks is not that of routines.
	wantVerify(t, parse("call 0"), allKinds(), 0, verdict{0, impl.ErrCall})
	wantVerify(t, parse("value 0; store 0"), nil, 6, verdict{0, impl.ErrNone})
	// An operand on the stack does not count for a call, nor does a full stack for a missing block.
	full := slices.Repeat(parse("push 1"), 8)
	wantVerify(t, append(full, parse("value 0")...), nil, 0, verdict{8, impl.ErrNone})
	wantVerify(t, append(full, parse("value 0")...), allKinds(), 0, verdict{8, impl.ErrFull})
	wantVerify(t, append(full, parse("call 0")...), nil, 1, verdict{9, impl.ErrStack})
	wantVerify(t, append(full, parse("call 0")...), nil, 0, verdict{8, impl.ErrCall})
}

// Each instruction has several errors, or is followed by one with another error: the first one in the order of chapter 5 counts.
func TestVerifyOrder(t *testing.T) {
	full := strings.Repeat("push 1;", 8)
	deep := strings.Repeat("repeat 1;", 4)
	for _, v := range []struct {
		text string
		want verdict
	}{
		{"push 1; add; block 1; end", verdict{1, impl.ErrStack}},
		{"end; add", verdict{0, impl.ErrNest}},
		{"in 0; add; end", verdict{1, impl.ErrStack}},          // too few, and of the wrong type
		{"push 1; push 2; sel", verdict{2, impl.ErrStack}},     // too few, and the right types
		{"push 1; in 0; add", verdict{2, impl.ErrType}},        // the upper one
		{"in 0; push 1; add", verdict{2, impl.ErrType}},        // the lower one
		{"push 1; repeat 2; out 0", verdict{2, impl.ErrStack}}, // below the branch, and of the wrong type
		{"repeat 1; push 1; else", verdict{2, impl.ErrNest}},
		{"in 0; if; else; push 1; else", verdict{4, impl.ErrNest}},
		{"push 1; else", verdict{1, impl.ErrNest}},
		{"push 1; end", verdict{1, impl.ErrNest}},
		{"in 0; if; push 1; else; else", verdict{3, impl.ErrStack}},
		{full + "flag 1; add", verdict{8, impl.ErrFull}},
		{full + "out 0", verdict{8, impl.ErrType}},
		{full + "less; not; add", verdict{10, impl.ErrType}},
		{deep + "if", verdict{4, impl.ErrStack}},
		{deep + "push 1; if", verdict{5, impl.ErrType}},
		{deep + "in 0; if", verdict{5, impl.ErrDepth}},
		{deep + "push 1; repeat 1", verdict{5, impl.ErrDepth}},
		{deep + "call 1; repeat 1", verdict{4, impl.ErrCall}},
		{full + "block 1", verdict{8, impl.ErrNone}},
		{full + "block 0", verdict{8, impl.ErrType}},
		{"block 1", verdict{0, impl.ErrNone}},
		{"block 0", verdict{0, impl.ErrStack}},
		{"call 1; end", verdict{0, impl.ErrCall}},
		{"repeat 1; push 1", verdict{0, impl.ErrNest}},
	} {
		checkVerify(t, parse(v.text), []int{1}, 1)
		wantVerify(t, parse(v.text), []int{1}, 1, v.want)
	}
}

// wantRefused expects the same code from VerifyCode and StackAt, and nothing else.
func wantRefused(t *testing.T, what string, code []impl.Instr, kinds []int, routines, want int) {
	t.Helper()
	if at, c := impl.VerifyCode(code, kinds, routines); at != 0 || c != want {
		t.Errorf("VerifyCode with %s = %d, %d, want %d", what, at, c, want)
	}
	for _, at := range []int{math.MinInt, -1, 0, 1, len(code), len(code) + 1, math.MaxInt} {
		if s, c := impl.StackAt(code, kinds, routines, at); s != "" || c != want {
			t.Errorf("StackAt %d with %s = %q, %d, want %d", at, what, s, c, want)
		}
	}
}

func TestVerifyOfLongCode(t *testing.T) {
	cut := parse("cut")
	for n := range 41 {
		checkVerify(t, slices.Repeat(cut, n), nil, 0)
		wantVerify(t, slices.Repeat(cut, n), nil, 0, verdict{})
	}
	for _, v := range []struct{ n, code int }{{41, impl.ErrMany}, {42, impl.ErrMany}, {longestList, impl.ErrMany}, {longestList + 1, impl.ErrLong}, {20000, impl.ErrLong}} {
		for _, x := range []impl.Instr{cut[0], {}, {Op: 9}, {Op: 23}} {
			wantRefused(t, "much code", slices.Repeat([]impl.Instr{x}, v.n), nil, 0, v.code)
			wantRefused(t, "much code and wrong kinds", slices.Repeat([]impl.Instr{x}, v.n), []int{0}, -1, v.code)
			wantRefused(t, "much code and many kinds", slices.Repeat([]impl.Instr{x}, v.n), make([]int, longestList), 7, v.code)
			wantRefused(t, "much code and too many kinds", slices.Repeat([]impl.Instr{x}, v.n), make([]int, longestList+1), 7, impl.ErrLong)
		}
	}
	// 40 instructions with everything in them: the last one is verified like the others
	most := append(slices.Repeat(cut, 36), parse("push 1; push 2; less; out 0")...)
	wantVerify(t, most, nil, 0, verdict{})
	wantVerify(t, append(slices.Repeat(cut, 39), parse("add")...), nil, 0, verdict{39, impl.ErrStack})
	wantVerify(t, append(slices.Repeat(cut, 39), parse("repeat 1")...), nil, 0, verdict{39, impl.ErrNest})
}

// wrongKinds holds lists with a number that is no kind, or too many kinds.
func wrongKinds() [][]int {
	var list [][]int
	for _, kind := range otherKinds() {
		list = append(list, []int{kind}, []int{1, kind}, []int{kind, 4}, []int{1, 2, 3, 4, 1, 2, 3, kind})
	}
	for _, n := range []int{9, 10, longestList - 1, longestList} {
		list = append(list, slices.Repeat([]int{1}, n), make([]int, n))
	}
	return list
}

func TestVerifyWithWrongKinds(t *testing.T) {
	for _, kinds := range wrongKinds() {
		wantRefused(t, "wrong kinds", nil, kinds, 0, impl.ErrBad)
		wantRefused(t, "wrong kinds and a wrong number of routines", parse("cut"), kinds, 7, impl.ErrBad)
		wantRefused(t, "wrong kinds and wrong code", parse("end; add"), kinds, 2, impl.ErrBad)
		wantAll(t, nil, kinds, 0, verdict{0, impl.ErrBad})
		wantAll(t, []impl.Routine{{Code: parse("cut; end")}}, kinds, 0, verdict{0, impl.ErrBad})
	}
	wantRefused(t, "too many kinds", nil, make([]int, longestList+1), 0, impl.ErrLong)
	wantRefused(t, "too many kinds", make([]impl.Instr, 41), slices.Repeat([]int{1}, 20000), -1, impl.ErrLong)
	for n := range 9 {
		for kind := 1; kind <= 4; kind++ {
			wantVerify(t, parse("cut"), slices.Repeat([]int{kind}, n), 0, verdict{})
			wantAll(t, []impl.Routine{{Code: parse("cut")}}, slices.Repeat([]int{kind}, n), 0, verdict{})
		}
	}
}

func TestVerifyOfInvalidInstrs(t *testing.T) {
	for _, x := range invalidInstrs() {
		wantVerify(t, []impl.Instr{x}, nil, 0, verdict{0, impl.ErrBad})
	}
	for _, x := range []impl.Instr{{}, {Op: 27}, {Op: -1}, {Op: 9, A: 1}, {Op: 24}, {Op: 24, A: 21}, {Op: 26, A: 6}, {Op: 19, A: 8}, {Op: math.MinInt, A: math.MaxInt}} {
		for _, n := range []int{1, 2, 20, 40} {
			for _, at := range []int{0, n / 2, n - 1} {
				// The other instructions have errors of the verification, which come later.
				code := slices.Repeat(parse("add"), n)
				code[at] = x
				wantRefused(t, "an invalid instruction", code, nil, 0, impl.ErrBad)
				wantRefused(t, "an invalid instruction and a wrong number of routines", code, allKinds(), 7, impl.ErrBad)
				wantAll(t, []impl.Routine{{}, {Code: code}}, nil, 0, verdict{0, impl.ErrBad})
			}
		}
	}
}

func TestVerifyWithNumbersOfRoutines(t *testing.T) {
	for _, n := range edgeInts() {
		if n >= 0 && n <= 6 {
			wantVerify(t, parse("cut"), nil, n, verdict{})
			continue
		}
		wantRefused(t, "a wrong number of routines", nil, nil, n, impl.ErrRange)
		wantRefused(t, "a wrong number of routines and wrong code", parse("end"), allKinds(), n, impl.ErrRange)
		wantRefused(t, "a wrong number of routines and a call", parse("call 5"), nil, n, impl.ErrRange)
	}
}
