package tests

import (
	"math/rand"
	"slices"
	"strings"
	"testing"

	"loop.example/g00684/impl"
)

// effectRow is the stack column of the table of chapter 3, top last.
type effectRow struct {
	op           int
	takes, gives string
}

// effectTable has a row for every operation but block, written out by number so that a wrong constant does not change what the tests expect.
func effectTable() []effectRow {
	return []effectRow{
		{1, "", "i"}, {2, "", "b"}, {3, "", "i"}, {4, "i", ""},
		{5, "", "b"}, {6, "b", ""}, {7, "", "b"}, {8, "b", ""},
		{9, "ii", "i"}, {10, "ii", "i"}, {11, "ii", "i"}, {12, "ii", "i"},
		{13, "ii", "b"}, {14, "ii", "b"},
		{15, "bb", "b"}, {16, "bb", "b"}, {17, "b", "b"},
		{18, "bii", "i"}, {20, "", "i"}, {21, "b", ""},
		{22, "", ""}, {23, "", ""}, {24, "", ""}, {25, "", ""}, {26, "", ""},
	}
}

// effectOf is the effect of an instruction that finds what it names.
func effectOf(x impl.Instr, kinds []int) effectRow {
	if x.Op == 19 {
		return effectRow{19, []string{"", "bi", "bbi", "b", "bb"}[kinds[x.A]], "b"}
	}
	for _, row := range effectTable() {
		if row.op == x.Op {
			return row
		}
	}
	panic("no operation")
}

type verdict struct{ at, code int }

// A reading is the reference for the verifier. It reads code by recursion: a branch has a stack of its own, so that
// it cannot even see what is below.
type reading struct {
	code     []impl.Instr
	kinds    []int
	routines int
	at       int
	before   []string // the whole stack before each instruction so far
}

// judge is the reference for well-formed code; the stacks are complete if the verdict is zero.
func judge(code []impl.Instr, kinds []int, routines int) (verdict, []string) {
	r := &reading{code: code, kinds: kinds, routines: routines}
	v := r.branch(-1, 0, "")
	return v, append(r.before, "")
}

func (r *reading) misses(x impl.Instr) int {
	if (x.Op == 19 || x.Op == 20) && x.A >= len(r.kinds) {
		return impl.ErrNone
	}
	if x.Op == 26 && x.A >= r.routines {
		return impl.ErrCall
	}
	return 0
}

// branch reads to the end of what was opened at an index, -1 for all of the code.
func (r *reading) branch(opened, depth int, below string) verdict {
	own := ""
	takesElse := depth > 0 && r.code[opened].Op == 21
	for ; r.at < len(r.code); r.at++ {
		x := r.code[r.at]
		r.before = append(r.before, below+own)
		if code := r.misses(x); code != 0 {
			return verdict{r.at, code}
		}
		row := effectOf(x, r.kinds)
		if len(own) < len(row.takes) {
			return verdict{r.at, impl.ErrStack}
		}
		rest, fits := strings.CutSuffix(own, row.takes)
		if !fits {
			return verdict{r.at, impl.ErrType}
		}
		own = rest + row.gives
		if len(below)+len(own) > 8 {
			return verdict{r.at, impl.ErrFull}
		}
		switch {
		case (x.Op == 21 || x.Op == 24) && depth == 4:
			return verdict{r.at, impl.ErrDepth}
		case x.Op == 21 || x.Op == 24:
			r.at++
			if v := r.branch(r.at-1, depth+1, below+own); v.code != 0 {
				return v
			}
		case x.Op == 22 && !takesElse || x.Op == 23 && depth == 0:
			return verdict{r.at, impl.ErrNest}
		case (x.Op == 22 || x.Op == 23) && own != "":
			return verdict{r.at, impl.ErrStack}
		case x.Op == 22:
			takesElse = false
		case x.Op == 23:
			return verdict{}
		}
	}
	if depth > 0 {
		return verdict{opened, impl.ErrNest}
	}
	if own != "" {
		return verdict{r.at, impl.ErrStack}
	}
	return verdict{}
}

// checkVerify compares VerifyCode, VerifyAll and StackAt with the reference.
func checkVerify(t *testing.T, code []impl.Instr, kinds []int, routines int) verdict {
	t.Helper()
	want, before := judge(code, kinds, routines)
	wantVerify(t, code, kinds, routines, want)
	wantStacks(t, code, kinds, routines, want, before)
	list := append(make([]impl.Routine, routines), impl.Routine{Code: code})
	if routines < 6 {
		k := routines
		if want.code == 0 {
			k = 0
		}
		wantAll(t, list, kinds, k, want)
	}
	return want
}

func wantVerify(t *testing.T, code []impl.Instr, kinds []int, routines int, want verdict) {
	t.Helper()
	if at, c := impl.VerifyCode(code, kinds, routines); at != want.at || c != want.code {
		t.Fatalf("VerifyCode(%v, %v, %d) = %d, %d, want %d, %d", code, kinds, routines, at, c, want.at, want.code)
	}
}

// wantStacks expects the stacks for accepted code, and otherwise the code of the verdict at every index.
func wantStacks(t *testing.T, code []impl.Instr, kinds []int, routines int, want verdict, before []string) {
	t.Helper()
	for at := -1; at <= len(code)+1; at++ {
		stack, result := "", want.code
		switch {
		case result != 0:
		case at < 0 || at > len(code):
			result = impl.ErrRange
		default:
			stack = before[at]
		}
		if s, c := impl.StackAt(code, kinds, routines, at); s != stack || c != result {
			t.Fatalf("StackAt(%v, %v, %d, %d) = %q, %d, want %q, %d", code, kinds, routines, at, s, c, stack, result)
		}
	}
}

func wantAll(t *testing.T, list []impl.Routine, kinds []int, k int, want verdict) {
	t.Helper()
	if got, at, c := impl.VerifyAll(list, kinds); got != k || at != want.at || c != want.code {
		t.Fatalf("VerifyAll(%v, %v) = %d, %d, %d, want %d, %d, %d", list, kinds, got, at, c, k, want.at, want.code)
	}
}

// A maker makes random code that the verifier must accept; own has the types of each open structure, the code itself first.
type maker struct {
	r        *rand.Rand
	kinds    []int
	routines int
	code     []impl.Instr
	own      []string
	elses    []bool
}

// acceptedCode returns code of at most most instructions.
func acceptedCode(r *rand.Rand, kinds []int, routines, most int) []impl.Instr {
	m := &maker{r: r, kinds: kinds, routines: routines, own: []string{""}, elses: []bool{false}}
	// An instruction asks for at most one more to close what it opens or pushes.
	for tries := 0; len(m.code)+m.closing()+2 <= most && tries < 400; tries++ {
		m.try(1 + r.Intn(26))
	}
	for len(m.own) > 1 {
		m.empty()
		m.add(impl.Instr{Op: 23})
	}
	m.empty()
	return m.code
}

func (m *maker) closing() int {
	return len(strings.Join(m.own, "")) + len(m.own) - 1
}

func (m *maker) try(op int) {
	x := impl.Instr{Op: op}
	if row := opTable()[op-1]; row.operand {
		x.A = row.low + m.r.Intn(min(row.high-row.low+1, 20))
	}
	top := len(m.own) - 1
	switch {
	case (op == 19 || op == 20) && x.A >= len(m.kinds) || op == 26 && x.A >= m.routines:
		return
	case (op == 21 || op == 24) && top == 4 || op == 22 && !m.elses[top] || op == 23 && top == 0:
		return
	case (op == 22 || op == 23) && m.own[top] != "":
		return
	}
	row := effectOf(x, m.kinds)
	if strings.HasSuffix(m.own[top], row.takes) && len(strings.Join(m.own, ""))-len(row.takes)+len(row.gives) <= 8 {
		m.add(x)
	}
}

func (m *maker) add(x impl.Instr) {
	m.code = append(m.code, x)
	row := effectOf(x, m.kinds)
	top := len(m.own) - 1
	m.own[top] = strings.TrimSuffix(m.own[top], row.takes) + row.gives
	switch x.Op {
	case 21, 24:
		m.own, m.elses = append(m.own, ""), append(m.elses, x.Op == 21)
	case 22:
		m.elses[top] = false
	case 23:
		m.own, m.elses = m.own[:top], m.elses[:top]
	}
}

// empty pops what the innermost structure has on the stack.
func (m *maker) empty() {
	for s := m.own[len(m.own)-1]; s != ""; s = s[:len(s)-1] {
		if s[len(s)-1] == 'i' {
			m.add(impl.Instr{Op: 4, A: m.r.Intn(16)})
		} else {
			m.add(impl.Instr{Op: 6, A: m.r.Intn(8)})
		}
	}
}

func randomKinds(r *rand.Rand) []int {
	kinds := make([]int, r.Intn(9))
	for i := range kinds {
		kinds[i] = 1 + r.Intn(4)
	}
	return kinds
}

// mutate changes, drops, repeats or inserts an instruction; the result has at most 40.
func mutate(r *rand.Rand, code []impl.Instr) []impl.Instr {
	list := slices.Clone(code)
	x := randomCode(r, 1)[0]
	if len(list) == 0 {
		return []impl.Instr{x}
	}
	at := r.Intn(len(list))
	switch r.Intn(4) {
	case 0:
		list[at] = x
	case 1:
		list = slices.Delete(list, at, at+1)
	case 2:
		list = slices.Insert(list, at, list[r.Intn(len(list))])
	case 3:
		list = slices.Insert(list, at, x)
	}
	return list[:min(len(list), 40)]
}

// Accepted code, and code that differs from it in one place or in a few.
func TestVerifyOfRandomCode(t *testing.T) {
	r := rand.New(rand.NewSource(11))
	seen := map[int]int{}
	for range 3000 {
		kinds, routines := randomKinds(r), r.Intn(7)
		code := acceptedCode(r, kinds, routines, r.Intn(41))
		if v := checkVerify(t, code, kinds, routines); v.code != 0 {
			t.Fatal("the maker made", code, v)
		}
		for range 6 {
			code = mutate(r, code)
			seen[checkVerify(t, code, kinds, routines).code]++
		}
	}
	for _, code := range []int{0, impl.ErrNone, impl.ErrCall, impl.ErrStack, impl.ErrType, impl.ErrFull, impl.ErrDepth, impl.ErrNest} {
		if seen[code] < 20 {
			t.Error("code", code, "was seen", seen[code], "times")
		}
	}
}

// eachCode calls check with all code of up to most of these instructions.
func eachCode(letters []impl.Instr, most int, check func(code []impl.Instr)) {
	var code []impl.Instr
	var extend func(left int)
	extend = func(left int) {
		check(code)
		if left == 0 {
			return
		}
		for _, x := range letters {
			code = append(code, x)
			extend(left - 1)
			code = code[:len(code)-1]
		}
	}
	extend(most)
}

// These instructions have every effect on types and structures but that of sel.
func TestVerifyOfAllShortCode(t *testing.T) {
	letters := parse("push 1; flag 1; store 0; out 0; and; block 0; if; else; end; repeat 2; call 1")
	eachCode(letters, 5, func(code []impl.Instr) {
		want, _ := judge(code, []int{2}, 1)
		wantVerify(t, code, []int{2}, 1, want)
	})
}

// parse reads instructions that are separated by semicolons.
func parse(text string) []impl.Instr {
	var code []impl.Instr
	for _, s := range strings.Split(text, ";") {
		if strings.TrimSpace(s) == "" {
			continue
		}
		x, c := impl.ReadInstr(s)
		if c != 0 {
			panic("no instruction: " + s)
		}
		code = append(code, x)
	}
	return code
}
