package tests

import (
	"math"
	"math/rand"
	"slices"
	"strings"
	"testing"

	"loop.example/g00684/impl"
)

// wantFlat expects the code itself with these targets.
func wantFlat(t *testing.T, code []impl.Instr, kinds []int, routines int, targets []int) {
	t.Helper()
	list, result := impl.FlatOf(code, kinds, routines)
	if result != 0 || len(list) != len(code) || len(targets) != len(code) {
		t.Fatalf("FlatOf(%v) = %v, %d, want %d targets", code, list, result, len(targets))
	}
	for at, x := range code {
		if want := (impl.Flat{Op: x.Op, A: x.A, To: targets[at]}); list[at] != want {
			t.Errorf("instruction %d of FlatOf(%v) is %v, want %v", at, code, list[at], want)
		}
	}
}

// wantNoFlat expects the code of VerifyCode and nothing beside it.
func wantNoFlat(t *testing.T, code []impl.Instr, kinds []int, routines, want int) {
	t.Helper()
	if list, result := impl.FlatOf(code, kinds, routines); result != want || len(list) != 0 {
		t.Errorf("FlatOf(%s, %s, %d) = %v, %d, want code %d", short(shown(code)), short(shown(kinds)), routines, list, result, want)
	}
}

// targetsOf is the reference: it looks up each instruction by itself.
func targetsOf(code []impl.Instr) []int {
	list := make([]int, len(code))
	for i, x := range code {
		for at, m := range matchesOf(code) {
			switch {
			case m.code != 0:
			case x.Op == 21 && i == at && m.other > 0:
				list[i] = m.other + 1
			case x.Op == 21 && i == at, x.Op == 22 && i == m.other, x.Op == 23 && i == m.end && code[at].Op == 21:
				list[i] = m.end + 1
			case x.Op == 23 && i == m.end:
				list[i] = at + 1
			}
		}
	}
	return list
}

func TestFlatOf(t *testing.T) {
	for _, v := range []struct {
		text    string
		targets []int
	}{
		{"", nil},
		{"cut", []int{0}},
		{"push 1; store 0; in 0; out 0; cut; call 5", make([]int, 6)},
		// an if without and with else, with empty branches too
		{"in 0; if; end", []int{0, 3, 3}},
		{"in 0; if; else; end", []int{0, 3, 4, 4}},
		{"in 0; if; cut; end; cut", []int{0, 4, 0, 4, 0}},
		{"in 0; if; cut; else; end", []int{0, 4, 0, 5, 5}},
		{"in 0; if; else; cut; end", []int{0, 3, 5, 0, 5}},
		{"in 0; if; cut; else; cut; cut; end; cut", []int{0, 4, 0, 7, 0, 0, 7, 0}},
		// a repeat
		{"repeat 1; end", []int{0, 1}},
		{"repeat 20; cut; end", []int{0, 0, 1}},
		{"cut; repeat 3; cut; cut; end; cut", []int{0, 0, 0, 0, 2, 0}},
		// one behind another
		{"in 0; if; end; in 0; if; else; end; repeat 1; end; repeat 2; end; in 0; if; end", []int{0, 3, 3, 0, 6, 7, 7, 0, 8, 0, 10, 0, 14, 14}},
		// structures inside structures of the same kind
		{"in 0; if; in 1; if; cut; end; end", []int{0, 7, 0, 6, 0, 6, 7}},
		{"in 0; if; in 1; if; cut; else; cut; end; else; in 2; if; cut; end; end", []int{0, 9, 0, 6, 0, 8, 0, 8, 14, 0, 13, 0, 13, 14}},
		{"in 0; if; in 1; if; else; end; end", []int{0, 7, 0, 5, 6, 6, 7}},
		{"in 0; if; in 1; if; end; else; end", []int{0, 6, 0, 5, 5, 7, 7}},
		{"in 0; if; in 0; if; in 0; if; in 0; if; end; end; end; end", []int{0, 12, 0, 11, 0, 10, 0, 9, 9, 10, 11, 12}},
		{"in 0; if; else; in 0; if; else; in 0; if; else; in 0; if; else; end; end; end; end", []int{0, 3, 16, 0, 6, 15, 0, 9, 14, 0, 12, 13, 13, 14, 15, 16}},
		{"repeat 2; repeat 3; end; cut; end", []int{0, 0, 2, 0, 1}},
		{"repeat 1; repeat 2; repeat 3; repeat 4; end; end; end; end", []int{0, 0, 0, 0, 4, 3, 2, 1}},
		// of both kinds
		{"repeat 2; in 0; if; end; end", []int{0, 0, 4, 4, 1}},
		{"repeat 2; in 0; if; else; end; end", []int{0, 0, 4, 5, 5, 1}},
		{"in 0; if; repeat 2; end; end", []int{0, 5, 0, 3, 5}},
		{"in 0; if; repeat 2; end; else; repeat 3; cut; end; end", []int{0, 5, 0, 3, 9, 0, 0, 6, 9}},
		{"repeat 2; in 0; if; repeat 3; in 1; if; cut; end; end; else; end; end", []int{0, 0, 10, 0, 0, 8, 0, 8, 4, 11, 11, 1}},
	} {
		code := parse(v.text)
		wantFlat(t, code, nil, 6, v.targets)
		if !slices.Equal(targetsOf(code), v.targets) {
			t.Errorf("the targets of %q are %v by the reference, want %v", v.text, targetsOf(code), v.targets)
		}
	}
}

// The largest code has targets at its very end.
func TestFlatOfTheLongestCode(t *testing.T) {
	targets := func(places ...[2]int) []int {
		list := make([]int, 40)
		for _, place := range places {
			list[place[0]] = place[1]
		}
		return list
	}
	wantFlat(t, parse(strings.Repeat("cut;", 40)), nil, 0, targets())
	wantFlat(t, parse("in 0; if;"+strings.Repeat("cut;", 37)+"end"), nil, 0, targets([2]int{1, 40}, [2]int{39, 40}))
	wantFlat(t, parse("in 0; if;"+strings.Repeat("cut;", 36)+"else; end"), nil, 0, targets([2]int{1, 39}, [2]int{38, 40}, [2]int{39, 40}))
	wantFlat(t, parse("repeat 20;"+strings.Repeat("cut;", 38)+"end"), nil, 0, targets([2]int{39, 1}))
	wantNoFlat(t, slices.Repeat(parse("cut"), 41), nil, 0, impl.ErrMany)
}

// Every operation keeps its Op and its A, which has nothing to do with the target.
func TestFlatOfEveryOp(t *testing.T) {
	for _, row := range plainRows() {
		code := slices.Concat(pushing(row.takes), []impl.Instr{row.x}, popping(row.gives))
		wantFlat(t, code, allKinds(), 6, make([]int, len(code)))
	}
	for _, a := range []int{smallestValue, -1, 0, 1, largestValue} {
		wantFlat(t, []impl.Instr{{Op: 1, A: a}, {Op: 4, A: 15}}, nil, 0, []int{0, 0})
	}
	for a := 1; a <= 20; a++ {
		wantFlat(t, []impl.Instr{{Op: 24, A: a}, {Op: 23}}, nil, 0, []int{0, 1})
	}
}

func TestFlatOfAllSmallCode(t *testing.T) {
	for size := range 5 {
		eachPart(size, func(text string) {
			code := parse(text)
			wantFlat(t, code, nil, 1, targetsOf(code))
		})
	}
}

// Accepted code, and code that differs from it in one place or in a few.
func TestFlatOfRandomCode(t *testing.T) {
	r := rand.New(rand.NewSource(101))
	rejected := 0
	for range 2000 {
		kinds, routines := randomKinds(r), r.Intn(7)
		code := acceptedCode(r, kinds, routines, r.Intn(41))
		wantFlat(t, code, kinds, routines, targetsOf(code))
		for range 3 {
			code = mutate(r, code)
			if v, _ := judge(code, kinds, routines); v.code != 0 {
				wantNoFlat(t, code, kinds, routines, v.code)
				rejected++
				continue
			}
			wantFlat(t, code, kinds, routines, targetsOf(code))
		}
	}
	if rejected < 1000 {
		t.Error("code was rejected", rejected, "times")
	}
}

func TestFlatOfRejectedCode(t *testing.T) {
	for _, v := range []struct {
		text string
		want int
	}{
		{"end", impl.ErrNest}, {"else", impl.ErrNest}, {"in 0; if", impl.ErrNest}, {"in 0; if; else; else; end", impl.ErrNest}, {"repeat 2; else; end", impl.ErrNest},
		{"cut; repeat 1", impl.ErrNest}, {"if; end", impl.ErrStack}, {"push 1", impl.ErrStack}, {"push 1; if; end", impl.ErrType},
		{strings.Repeat("push 1;", 9), impl.ErrFull}, {strings.Repeat("repeat 1;", 5), impl.ErrDepth}, {"value 4; store 0", impl.ErrNone}, {"call 2", impl.ErrCall},
	} {
		wantNoFlat(t, parse(v.text), allKinds(), 2, v.want)
	}
}

// The codes of VerifyCode, also those about the arguments, in its order.
func TestFlatOfOtherArguments(t *testing.T) {
	good := parse("in 0; if; cut; end")
	for _, n := range []int{-1, 7, math.MinInt, math.MaxInt} {
		wantNoFlat(t, good, nil, n, impl.ErrRange)
		wantNoFlat(t, good, []int{5}, n, impl.ErrBad)
		wantNoFlat(t, parse("end"), nil, n, impl.ErrRange)
		wantNoFlat(t, []impl.Instr{{Op: 27}}, nil, n, impl.ErrBad)
		wantNoFlat(t, slices.Repeat(good, 11), []int{5}, n, impl.ErrMany)
		wantNoFlat(t, slices.Repeat(good, 2000), []int{5}, n, impl.ErrLong)
		wantNoFlat(t, slices.Repeat(good, 11), make([]int, longestList+1), n, impl.ErrLong)
	}
	for _, code := range edgeCode() {
		for _, kinds := range edgeKinds() {
			for _, n := range []int{math.MinInt, -1, 0, 2, 6, 7, math.MaxInt} {
				if _, want := impl.VerifyCode(code, kinds, n); want != 0 {
					wantNoFlat(t, code, kinds, n, want)
				} else {
					wantFlat(t, code, kinds, n, targetsOf(code))
				}
			}
		}
	}
}
