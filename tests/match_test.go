package tests

import (
	"math"
	"math/rand"
	"slices"
	"testing"

	"loop.example/g00684/impl"
)

type match struct{ other, end, code int }

func wantMatch(t *testing.T, code []impl.Instr, at int, want match) {
	t.Helper()
	if other, end, c := impl.MatchOf(code, at); other != want.other || end != want.end || c != want.code {
		t.Fatalf("MatchOf(%v, %d) = %d, %d, %d, want %v", code, at, other, end, c, want)
	}
}

// matchesOf is the reference: it pairs the whole code from its start and returns a match for every index.
func matchesOf(code []impl.Instr) []match {
	list := make([]match, len(code))
	var open []int
	for i, x := range code {
		list[i] = match{code: impl.ErrKind}
		switch {
		case x.Op == 21 || x.Op == 24:
			list[i].code = impl.ErrNest
			open = append(open, i)
		case len(open) == 0:
		case x.Op == 22:
			list[open[len(open)-1]].other = i
		case x.Op == 23:
			top := &list[open[len(open)-1]]
			top.end, top.code = i, 0
			open = open[:len(open)-1]
		}
	}
	for i := range list {
		if list[i].code != 0 {
			list[i] = match{code: list[i].code}
		}
	}
	return list
}

func checkMatches(t *testing.T, code []impl.Instr) {
	t.Helper()
	for at, want := range matchesOf(code) {
		wantMatch(t, code, at, want)
	}
	wantMatch(t, code, -1, match{code: impl.ErrRange})
	wantMatch(t, code, len(code), match{code: impl.ErrRange})
}

func TestMatchOf(t *testing.T) {
	nest := parse("in 0; if; repeat 2; cut; end; else; in 0; if; end; end; repeat 1; end")
	for at, want := range []match{{code: impl.ErrKind}, {5, 9, 0}, {0, 4, 0}, {code: impl.ErrKind}, {code: impl.ErrKind}, {code: impl.ErrKind}, {code: impl.ErrKind}, {0, 8, 0}, {code: impl.ErrKind}, {code: impl.ErrKind}, {0, 11, 0}, {code: impl.ErrKind}} {
		wantMatch(t, nest, at, want)
	}
	wantMatch(t, parse("if; end"), 0, match{0, 1, 0})
	wantMatch(t, parse("if; else; end"), 0, match{1, 2, 0})
	wantMatch(t, parse("repeat 1; end"), 0, match{0, 1, 0})
	checkMatches(t, nest)
	checkMatches(t, nil)
}

// Code that the verifier rejects for one reason or another has matches like any other.
func TestMatchOfRejectedCode(t *testing.T) {
	for _, v := range []struct {
		text string
		at   int
		want match
	}{
		{"if; else; else; end", 0, match{2, 3, 0}},
		{"if; else; cut; else; cut; else; cut; end", 0, match{5, 7, 0}},
		{"if; if; else; end; end", 0, match{0, 4, 0}},
		{"if; if; else; end; end", 1, match{2, 3, 0}},
		{"if; else; if; else; end; end", 0, match{1, 5, 0}},
		{"if; else; if; else; else; end; end", 0, match{1, 6, 0}},
		{"if; else; if; else; end; else; end", 0, match{5, 6, 0}},
		{"if; repeat 1; else; end; end", 0, match{0, 4, 0}},
		{"if; repeat 1; else; end; end", 1, match{2, 3, 0}},
		{"repeat 1; else; end", 0, match{1, 2, 0}},
		{"repeat 1; else; else; if; else; end; end", 0, match{2, 6, 0}},
		{"if; end; else; end", 0, match{0, 1, 0}},
		{"else; if; end", 1, match{0, 2, 0}},
		{"end; end; if; else; end; end", 2, match{3, 4, 0}},
		{"else; end; repeat 3; end", 2, match{0, 3, 0}},
		{"if", 0, match{code: impl.ErrNest}},
		{"if; else", 0, match{code: impl.ErrNest}},
		{"if; if; end", 0, match{code: impl.ErrNest}},
		{"if; if; end", 1, match{0, 2, 0}},
		{"if; else; if; end", 0, match{code: impl.ErrNest}},
		{"if; end; if", 2, match{code: impl.ErrNest}},
		{"end; if", 1, match{code: impl.ErrNest}},
		{"repeat 1; if; else; end", 0, match{code: impl.ErrNest}},
		{"push 1; if; add; out 0; else; store 1; end", 1, match{4, 6, 0}},
		{"call 5; block 7; if; end", 2, match{0, 3, 0}},
		{"repeat 1; repeat 1; repeat 1; repeat 1; repeat 1; end; end; end; end; end", 0, match{0, 9, 0}},
		{"repeat 1; repeat 1; repeat 1; repeat 1; repeat 1; end; end; end; end; end", 4, match{0, 5, 0}},
	} {
		wantMatch(t, parse(v.text), v.at, v.want)
		checkMatches(t, parse(v.text))
	}
}

// Only the operations matter: an if or a repeat with any A is one, and an invalid instruction is another operation.
func TestMatchOfInvalidInstrs(t *testing.T) {
	for _, a := range edgeInts() {
		code := []impl.Instr{{Op: 21, A: a}, {Op: 24, A: a}, {Op: a + 100, A: a}, {Op: 23, A: a}, {Op: 22, A: a}, {Op: 23, A: a}}
		if a+100 >= 21 && a+100 <= 24 {
			code[2].Op = 0
		}
		wantMatch(t, code, 0, match{4, 5, 0})
		wantMatch(t, code, 1, match{0, 3, 0})
		wantMatch(t, code, 2, match{code: impl.ErrKind})
	}
	for _, x := range invalidInstrs() {
		if x.Op != 21 && x.Op != 24 {
			wantMatch(t, []impl.Instr{x, {Op: 23}}, 0, match{code: impl.ErrKind})
		}
	}
	for _, row := range opTable() {
		want := match{code: impl.ErrKind}
		if row.number == 21 || row.number == 24 {
			want = match{1, 2, 0}
		}
		wantMatch(t, []impl.Instr{{Op: row.number, A: row.low}, {Op: 22}, {Op: 23}}, 0, want)
	}
}

// Each call has several errors; they count in the order of chapter 5.
func TestMatchOfOrder(t *testing.T) {
	for _, v := range []struct{ n, code int }{{41, impl.ErrMany}, {42, impl.ErrMany}, {longestList, impl.ErrMany}, {longestList + 1, impl.ErrLong}, {20000, impl.ErrLong}} {
		for _, op := range []int{21, 24, 23, 0} {
			code := slices.Repeat([]impl.Instr{{Op: op, A: 1}}, v.n)
			for _, at := range []int{math.MinInt, -1, 0, 1, 40, v.n - 1, v.n, math.MaxInt} {
				wantMatch(t, code, at, match{code: v.code})
			}
		}
	}
	for _, n := range []int{0, 1, 2, 39, 40} {
		for _, op := range []int{21, 24} {
			code := slices.Repeat([]impl.Instr{{Op: op, A: 1}}, n)
			for _, at := range edgeInts() {
				want := impl.ErrRange
				if at >= 0 && at < n {
					want = impl.ErrNest
				}
				wantMatch(t, code, at, match{code: want})
			}
		}
	}
	most := append(slices.Repeat([]impl.Instr{{Op: 24, A: 1}}, 20), slices.Repeat([]impl.Instr{{Op: 23}}, 20)...)
	for at := range 20 {
		wantMatch(t, most, at, match{0, 39 - at, 0})
	}
}

// Instructions that open, part, close or do nothing: all short code, and random longer code.
func TestMatchOfAllCode(t *testing.T) {
	letters := []impl.Instr{{Op: 21}, {Op: 22}, {Op: 23}, {Op: 24, A: 2}, {Op: 25}}
	eachCode(letters, 6, func(code []impl.Instr) { checkMatches(t, code) })
	r := rand.New(rand.NewSource(14))
	for range 20000 {
		code := make([]impl.Instr, r.Intn(41))
		for i := range code {
			code[i] = letters[r.Intn(len(letters))]
		}
		checkMatches(t, code)
	}
}

func wantCalls(t *testing.T, code []impl.Instr, want []int, wantCode int) {
	t.Helper()
	if list, c := impl.CallsOf(code); !slices.Equal(list, want) || c != wantCode {
		t.Fatalf("CallsOf(%v) = %v, %d, want %v, %d", code, list, c, want, wantCode)
	}
}

func TestCallsOf(t *testing.T) {
	for _, v := range []struct {
		text string
		want []int
	}{
		{"", nil},
		{"cut; push 3; store 3; value 4; repeat 5", nil},
		{"call 0", []int{0}},
		{"call 5", []int{5}},
		{"call 0; call 0", []int{0}},
		{"call 3; call 0; cut; call 3", []int{0, 3}},
		{"call 5; call 4; call 3; call 2; call 1; call 0", []int{0, 1, 2, 3, 4, 5}},
		{"call 0; call 1; call 2; call 3; call 4; call 5", []int{0, 1, 2, 3, 4, 5}},
		{"call 2; call 5; call 2; call 5; call 2", []int{2, 5}},
		{"in 0; if; call 4; else; call 1; end; repeat 2; call 4; end", []int{1, 4}},
		// code that the verifier rejects
		{"end; call 2; else; add; call 1", []int{1, 2}},
		{"block 7; call 3; push 1", []int{3}},
	} {
		wantCalls(t, parse(v.text), v.want, 0)
	}
}

func TestCallsOfRandomCode(t *testing.T) {
	r := rand.New(rand.NewSource(15))
	for range 3000 {
		code := randomCode(r, r.Intn(41))
		called := [6]bool{}
		for i := range code {
			if r.Intn(8) == 0 {
				code[i] = impl.Instr{Op: 26, A: r.Intn(6)}
			}
			if code[i].Op == 26 {
				called[code[i].A] = true
			}
		}
		var want []int
		for a, yes := range called {
			if yes {
				want = append(want, a)
			}
		}
		wantCalls(t, code, want, 0)
	}
}

func TestCallsOfErrors(t *testing.T) {
	for _, v := range []struct{ n, code int }{{41, impl.ErrMany}, {42, impl.ErrMany}, {longestList, impl.ErrMany}, {longestList + 1, impl.ErrLong}, {20000, impl.ErrLong}} {
		wantCalls(t, slices.Repeat(parse("call 1"), v.n), nil, v.code)
		wantCalls(t, make([]impl.Instr, v.n), nil, v.code)
	}
	wantCalls(t, slices.Repeat(parse("call 1"), 40), []int{1}, 0)
	for _, x := range invalidInstrs() {
		wantCalls(t, []impl.Instr{x}, nil, impl.ErrBad)
	}
	for _, x := range []impl.Instr{{}, {Op: 26, A: -1}, {Op: 26, A: 6}, {Op: 26, A: math.MaxInt}, {Op: 9, A: 1}} {
		for _, at := range []int{0, 1, 20, 39} {
			code := slices.Repeat(parse("call 2"), 40)
			code[at] = x
			wantCalls(t, code, nil, impl.ErrBad)
		}
	}
}

// The result belongs to the caller: writing to it or behind it changes neither the code nor a later result.
func TestCallsOfReturnsNewMemory(t *testing.T) {
	code := parse("call 4; call 1; call 4; call 0")
	before := slices.Clone(code)
	first, _ := impl.CallsOf(code)
	second, _ := impl.CallsOf(code)
	for i := range first[:cap(first)] {
		first[:cap(first)][i] = 99
	}
	if !slices.Equal(second, []int{0, 1, 4}) || !slices.Equal(code, before) {
		t.Error("shared memory:", second, code)
	}
	wantCalls(t, code, []int{0, 1, 4}, 0)
}
