package tests

import (
	"math"
	"slices"
	"strings"
	"testing"

	"loop.example/g00684/impl"
)

// opRow is a row of the table of chapter 3; low and high are the range of A, both 0 without an operand.
type opRow struct {
	constant, number int
	name             string
	operand          bool
	low, high        int
	ticks            int
}

// opTable is the table of chapter 3, written out so that a wrong constant does not change what the tests expect.
func opTable() []opRow {
	return []opRow{
		{impl.OpPush, 1, "push", true, -2147483648, 2147483647, 1},
		{impl.OpFlag, 2, "flag", true, 0, 1, 1},
		{impl.OpLoad, 3, "load", true, 0, 15, 1},
		{impl.OpStore, 4, "store", true, 0, 15, 1},
		{impl.OpIn, 5, "in", true, 0, 7, 1},
		{impl.OpOut, 6, "out", true, 0, 7, 1},
		{impl.OpPeek, 7, "peek", true, 0, 7, 2},
		{impl.OpPoke, 8, "poke", true, 0, 7, 2},
		{impl.OpAdd, 9, "add", false, 0, 0, 1},
		{impl.OpSub, 10, "sub", false, 0, 0, 1},
		{impl.OpMul, 11, "mul", false, 0, 0, 2},
		{impl.OpDiv, 12, "div", false, 0, 0, 4},
		{impl.OpLess, 13, "less", false, 0, 0, 1},
		{impl.OpSame, 14, "same", false, 0, 0, 1},
		{impl.OpAnd, 15, "and", false, 0, 0, 1},
		{impl.OpOr, 16, "or", false, 0, 0, 1},
		{impl.OpNot, 17, "not", false, 0, 0, 1},
		{impl.OpSel, 18, "sel", false, 0, 0, 2},
		{impl.OpBlock, 19, "block", true, 0, 7, 3},
		{impl.OpValue, 20, "value", true, 0, 7, 1},
		{impl.OpIf, 21, "if", false, 0, 0, 1},
		{impl.OpElse, 22, "else", false, 0, 0, 1},
		{impl.OpEnd, 23, "end", false, 0, 0, 1},
		{impl.OpRepeat, 24, "repeat", true, 1, 20, 1},
		{impl.OpCut, 25, "cut", false, 0, 0, 1},
		{impl.OpCall, 26, "call", true, 0, 5, 2},
	}
}

// otherOps holds numbers that are no operation, those that wrap around to one among them.
func otherOps() []int {
	list := []int{math.MinInt, math.MaxInt, -256, 256, 257, 256 + 26, 1 << 32, 1<<32 + 1, 1<<32 + 26, -1 << 32, -1<<32 + 9, -1<<63 + 1}
	for n := -60; n <= 0; n++ {
		list = append(list, n)
	}
	for n := 27; n <= 600; n++ {
		list = append(list, n)
	}
	return list
}

// validInstrs holds every valid instruction, except that push has the values at and around every limit only.
func validInstrs() []impl.Instr {
	var list []impl.Instr
	for _, row := range opTable() {
		if row.number == 1 {
			for _, a := range edgeInts() {
				if isValue(a) {
					list = append(list, impl.Instr{Op: 1, A: a})
				}
			}
			continue
		}
		for a := row.low; a <= row.high; a++ {
			list = append(list, impl.Instr{Op: row.number, A: a})
		}
	}
	return list
}

// invalidInstrs holds other numbers as operations, and for every operation an A at and around every limit outside its range.
func invalidInstrs() []impl.Instr {
	var list []impl.Instr
	for _, op := range otherOps() {
		for _, a := range []int{0, 1, -1, op} {
			list = append(list, impl.Instr{Op: op, A: a})
		}
	}
	for _, row := range opTable() {
		for _, a := range append(edgeInts(), row.low-1, row.high+1, row.low-256, row.high+256) {
			if a < row.low || a > row.high {
				list = append(list, impl.Instr{Op: row.number, A: a})
			}
		}
	}
	return list
}

func TestLimitsOfChapter3(t *testing.T) {
	got := []int{impl.MaxCode, impl.MaxGlobals, impl.MaxPins, impl.MaxBlocks, impl.MaxRepeat, impl.MaxPous}
	if !slices.Equal(got, []int{40, 16, 8, 8, 20, 6}) {
		t.Error("limits", got)
	}
}

func TestOpTable(t *testing.T) {
	for i, row := range opTable() {
		if row.number != i+1 || row.constant != i+1 {
			t.Errorf("constant of %s is %d, want %d", row.name, row.constant, i+1)
		}
		if got := impl.OpName(row.number); got != row.name {
			t.Errorf("OpName(%d) = %q, want %q", row.number, got, row.name)
		}
		if got := impl.OpOf(row.name); got != row.number {
			t.Errorf("OpOf(%q) = %d, want %d", row.name, got, row.number)
		}
		if got := impl.OpOf(impl.OpName(row.number)); got != row.number {
			t.Errorf("OpOf(OpName(%d)) = %d", row.number, got)
		}
		if got, code := impl.CostOf(row.number); got != row.ticks || code != impl.OK {
			t.Errorf("CostOf(%d) = %d, %d, want %d", row.number, got, code, row.ticks)
		}
	}
}

func TestOtherOps(t *testing.T) {
	for _, op := range otherOps() {
		if got := impl.OpName(op); got != "" {
			t.Errorf("OpName(%d) = %q", op, got)
		}
		if got, code := impl.CostOf(op); got != 0 || code != impl.ErrOp {
			t.Errorf("CostOf(%d) = %d, %d, want ErrOp", op, got, code)
		}
	}
}

func TestOpOfOtherNames(t *testing.T) {
	known := map[string]bool{}
	for _, row := range opTable() {
		known[row.name] = true
	}
	names := []string{"", " ", "\n", "\x00", "jump", "nop", "1", "26", "OpPush", "push 1", "add 0", "ok", "timer", "xor", "mod", "\xff"}
	for _, row := range opTable() {
		n := row.name
		names = append(names, n[1:], n[:len(n)-1], n+"x", "x"+n, n+" ", " "+n, n+"\n", n+"\x00", n+n, strings.ToUpper(n), strings.ToUpper(n[:1])+n[1:])
		for at := range len(n) {
			for c := range 256 {
				names = append(names, n[:at]+string([]byte{byte(c)})+n[at+1:])
			}
		}
	}
	for _, n := range []int{20, 21, 1000, longestText, longestText + 1, 1 << 20} {
		names = append(names, strings.Repeat("o", n), strings.Repeat("add", n), "cut"+strings.Repeat(" ", n), strings.Repeat(" ", n))
	}
	for _, n := range names {
		if got := impl.OpOf(n); !known[n] && got != 0 {
			t.Errorf("OpOf(%q) = %d", short(n), got)
		}
	}
}

func TestInstrOKAtTheEndsOfRanges(t *testing.T) {
	for _, row := range opTable() {
		for _, v := range []struct {
			a    int
			want bool
		}{{row.low - 1, false}, {row.low, true}, {row.high, true}, {row.high + 1, false}} {
			if got := impl.InstrOK(impl.Instr{Op: row.number, A: v.a}); got != v.want {
				t.Errorf("InstrOK of %s with %d = %t", row.name, v.a, got)
			}
		}
	}
}

// An operation without an operand is valid with no A but 0.
func TestInstrOKWithEveryA(t *testing.T) {
	for _, row := range opTable() {
		list := edgeInts()
		for a := -600; a <= 600; a++ {
			list = append(list, a)
		}
		for _, a := range list {
			if got, want := impl.InstrOK(impl.Instr{Op: row.number, A: a}), a >= row.low && a <= row.high; got != want {
				t.Errorf("InstrOK of %s with %d = %t", row.name, a, got)
			}
		}
	}
}

func TestInstrOKOfOtherOps(t *testing.T) {
	for _, op := range otherOps() {
		for _, a := range edgeInts() {
			if impl.InstrOK(impl.Instr{Op: op, A: a}) {
				t.Errorf("InstrOK of operation %d with %d", op, a)
			}
		}
	}
}
