package tests

import (
	"math"
	"math/rand"
	"slices"
	"strings"
	"testing"

	"loop.example/g00684/impl"
)

func wantStackAt(t *testing.T, code []impl.Instr, kinds []int, routines int, want ...string) {
	t.Helper()
	for at, s := range want {
		if got, c := impl.StackAt(code, kinds, routines, at); got != s || c != 0 {
			t.Errorf("StackAt(%v, %d) = %q, %d, want %q", code, at, got, c, s)
		}
	}
	if len(want) != len(code)+1 {
		t.Error("stacks", len(want), "for", len(code), "instructions")
	}
}

func TestStackAt(t *testing.T) {
	wantStackAt(t, nil, nil, 0, "")
	wantStackAt(t, parse("cut"), nil, 0, "", "")
	wantStackAt(t, parse("push 7; in 1; if; push 1; push 2; less; out 0; end; store 1"), nil, 0,
		"", "i", "ib", "i", "ii", "iii", "ib", "i", "i", "")
	wantStackAt(t, parse("push 7; in 1; if; value 0; store 0; else; in 0; out 1; end; store 1"), allKinds(), 0,
		"", "i", "ib", "i", "ii", "i", "i", "ib", "i", "i", "")
	wantStackAt(t, parse("in 0; push 1; push 2; sel; in 1; in 2; and; poke 0; store 0"), nil, 0,
		"", "b", "bi", "bii", "i", "ib", "ibb", "ib", "i", "")
	wantStackAt(t, parse("in 0; in 1; push 5; block 1; repeat 2; peek 0; block 2; out 1; end; in 3; block 3; out 2"), allKinds(), 0,
		"", "b", "bb", "bbi", "b", "b", "bb", "bb", "b", "b", "bb", "b", "")
	wantStackAt(t, parse("load 0; in 0; call 0; cut; not; out 0; call 5; store 0"), nil, 6,
		"", "i", "ib", "ib", "ib", "ib", "i", "i", "")
	wantStackAt(t, slices.Concat(pushing("ibibbiib"), parse("repeat 20; repeat 1; end; end"), popping("ibibbiib")), nil, 0,
		"", "i", "ib", "ibi", "ibib", "ibibb", "ibibbi", "ibibbii", "ibibbiib", "ibibbiib", "ibibbiib", "ibibbiib",
		"ibibbiib", "ibibbii", "ibibbi", "ibibb", "ibib", "ibi", "ib", "i", "")
	most := append(slices.Repeat(parse("cut"), 38), parse("flag 0; out 0")...)
	wantStackAt(t, most, nil, 0, append(make([]string, 39), "b", "")...)
}

func TestStackAtOtherPlaces(t *testing.T) {
	for _, code := range [][]impl.Instr{nil, parse("cut"), parse("push 1; store 0"), slices.Repeat(parse("cut"), 40)} {
		for _, at := range append(edgeInts(), len(code)+1) {
			want := impl.ErrRange
			if at >= 0 && at <= len(code) {
				want = 0
			}
			if _, c := impl.StackAt(code, nil, 0, at); c != want {
				t.Errorf("StackAt %d of %d instructions has code %d, want %d", at, len(code), c, want)
			}
		}
	}
}

// Rejected code has no stacks, not even before the offending instruction.
func TestStackAtOfRejectedCode(t *testing.T) {
	for _, v := range []struct {
		text string
		code int
	}{
		{"push 1; store 0; add", impl.ErrStack},
		{"in 0; store 0", impl.ErrType},
		{"push 1", impl.ErrStack},
		{"cut; end", impl.ErrNest},
		{"repeat 1", impl.ErrNest},
		{"block 4", impl.ErrNone},
		{"call 2", impl.ErrCall},
		{strings.Repeat("push 1;", 9), impl.ErrFull},
		{strings.Repeat("repeat 1;", 5), impl.ErrDepth},
	} {
		code := parse(v.text)
		for _, at := range []int{math.MinInt, -1, 0, 1, 2, len(code), len(code) + 1, math.MaxInt} {
			if s, c := impl.StackAt(code, allKinds(), 2, at); s != "" || c != v.code {
				t.Errorf("StackAt %d of %q = %q, %d, want %d", at, v.text, s, c, v.code)
			}
		}
	}
}

// A machine finds its way through code without values; each if goes as choose says.
type machine struct {
	code   []impl.Instr
	choose func() bool
	other  map[int]int // the else of an if
	end    map[int]int // the end of an if, a repeat or an else
	loops  []int       // remaining iterations of the open repeats, innermost last
	begun  []int       // their indices
}

func newMachine(code []impl.Instr, choose func() bool) *machine {
	m := &machine{code: code, choose: choose, other: map[int]int{}, end: map[int]int{}}
	var open []int
	for i, x := range code {
		switch x.Op {
		case 21, 24:
			open = append(open, i)
		case 22:
			m.other[open[len(open)-1]] = i
		case 23:
			start := open[len(open)-1]
			open = open[:len(open)-1]
			m.end[start] = i
			if other, ok := m.other[start]; ok {
				m.end[other] = i
			}
		}
	}
	return m
}

func byChance(r *rand.Rand) func() bool {
	return func() bool { return r.Intn(2) > 0 }
}

// next returns the index that is executed behind at.
func (m *machine) next(at int) int {
	last := len(m.loops) - 1
	switch m.code[at].Op {
	case 21:
		if !m.choose() {
			if other, ok := m.other[at]; ok {
				return other + 1
			}
			return m.end[at] + 1
		}
	case 22:
		return m.end[at] + 1
	case 24:
		m.loops, m.begun = append(m.loops, m.code[at].A), append(m.begun, at)
	case 23:
		if last < 0 || m.end[m.begun[last]] != at {
			break
		}
		m.loops[last]--
		if m.loops[last] > 0 {
			return m.begun[last] + 1
		}
		m.loops, m.begun = m.loops[:last], m.begun[:last]
	}
	return at + 1
}

// However accepted code is executed, the stack is the one that StackAt tells.
func checkExecution(t *testing.T, code []impl.Instr, kinds []int, before []string, r *rand.Rand) {
	t.Helper()
	m := newMachine(code, byChance(r))
	stack, at := "", 0
	for range 2000 {
		if stack != before[at] || len(stack) > 8 {
			t.Fatalf("the stack before instruction %d of %v is %q, StackAt tells %q", at, code, stack, before[at])
		}
		if at == len(code) {
			return
		}
		row := effectOf(code[at], kinds)
		rest, fits := strings.CutSuffix(stack, row.takes)
		if !fits {
			t.Fatalf("instruction %d of %v does not find its operands on %q", at, code, stack)
		}
		stack = rest + row.gives
		at = m.next(at)
	}
}

func TestStackInExecutions(t *testing.T) {
	r := rand.New(rand.NewSource(12))
	for range 1500 {
		kinds, routines := randomKinds(r), r.Intn(7)
		code := acceptedCode(r, kinds, routines, r.Intn(41))
		for i, x := range code {
			if x.Op == 24 {
				code[i].A = 1 + x.A%3
			}
		}
		before := make([]string, len(code)+1)
		for at := range before {
			s, c := impl.StackAt(code, kinds, routines, at)
			if c != 0 || len(s) > 8 || strings.Trim(s, "ib") != "" {
				t.Fatalf("StackAt(%v, %d) = %q, %d", code, at, s, c)
			}
			before[at] = s
		}
		if before[0] != "" || before[len(code)] != "" {
			t.Fatalf("the stack of %v is %q at its start and %q at its end", code, before[0], before[len(code)])
		}
		for range 5 {
			checkExecution(t, code, kinds, before, r)
		}
	}
}

// Every if and every repeat of accepted code has its own end, every end its if or repeat, and both have the same stack.
func TestEveryStructureHasItsEnd(t *testing.T) {
	r := rand.New(rand.NewSource(13))
	for range 1500 {
		kinds := randomKinds(r)
		code := acceptedCode(r, kinds, 6, 40)
		ends := map[int]int{}
		for at, x := range code {
			if x.Op != 21 && x.Op != 24 {
				continue
			}
			other, end, c := impl.MatchOf(code, at)
			if _, twice := ends[end]; c != 0 || end <= at || twice || code[end].Op != 23 || other != 0 && (other <= at || other >= end || code[other].Op != 22 || x.Op == 24) {
				t.Fatalf("MatchOf(%v, %d) = %d, %d, %d", code, at, other, end, c)
			}
			ends[end] = at
			inside, _ := impl.StackAt(code, kinds, 6, at+1)
			last, _ := impl.StackAt(code, kinds, 6, end)
			behind, _ := impl.StackAt(code, kinds, 6, end+1)
			if inside != last || inside != behind {
				t.Fatalf("stacks %q, %q and %q of the structure at %d of %v", inside, last, behind, at, code)
			}
		}
		for at, x := range code {
			if _, ok := ends[at]; ok != (x.Op == 23) {
				t.Fatalf("the end at %d of %v belongs to nothing", at, code)
			}
		}
	}
}
