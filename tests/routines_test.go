package tests

import (
	"math/rand"
	"slices"
	"testing"

	"loop.example/g00684/impl"
)

// routinesOf parses one routine per text.
func routinesOf(texts ...string) []impl.Routine {
	var list []impl.Routine
	for _, text := range texts {
		list = append(list, impl.Routine{Code: parse(text)})
	}
	return list
}

func TestVerifyAll(t *testing.T) {
	for _, v := range []struct {
		list []impl.Routine
		k    int
		want verdict
	}{
		{nil, 0, verdict{}},
		{routinesOf(""), 0, verdict{}},
		{routinesOf("", "call 0", "call 1; call 0"), 0, verdict{}},
		{routinesOf("cut", "call 0", "call 1", "call 2", "call 3", "call 4; call 3; call 2; call 1; call 0"), 0, verdict{}},
		{routinesOf("in 0; push 5; block 0; out 0", "value 0; store 0; call 0"), 0, verdict{}},
		// the routine itself, later ones, and ones that do not exist
		{routinesOf("call 0"), 0, verdict{0, impl.ErrCall}},
		{routinesOf("call 1", ""), 0, verdict{0, impl.ErrCall}},
		{routinesOf("", "cut; call 1"), 1, verdict{1, impl.ErrCall}},
		{routinesOf("", "", "call 0; call 1; call 2"), 2, verdict{2, impl.ErrCall}},
		{routinesOf("", "call 5", "", "", "", ""), 1, verdict{0, impl.ErrCall}},
		{routinesOf("", "", "", "", "", "call 5"), 5, verdict{0, impl.ErrCall}},
		{routinesOf("", "", "", "", "", "call 4"), 0, verdict{}},
		// the first routine that fails, and in it the first instruction
		{routinesOf("push 1", "add"), 0, verdict{1, impl.ErrStack}},
		{routinesOf("", "push 1", "add"), 1, verdict{1, impl.ErrStack}},
		{routinesOf("", "", "", "", "", "cut; push 1; repeat 2; out 0; end; store 0"), 5, verdict{3, impl.ErrStack}},
		{routinesOf("cut", "cut; cut; repeat 1", "end"), 1, verdict{2, impl.ErrNest}},
		{routinesOf("cut", "in 0; push 1; block 1"), 1, verdict{2, impl.ErrNone}},
		{routinesOf("cut", "in 0; not; store 0", "call 5"), 1, verdict{2, impl.ErrType}},
	} {
		wantAll(t, v.list, []int{1}, v.k, v.want)
	}
}

// A stack or a structure ends with its routine: what one leaves is no operand of the next one.
func TestRoutinesAreVerifiedAlone(t *testing.T) {
	wantAll(t, routinesOf("push 1", "store 0"), nil, 0, verdict{1, impl.ErrStack})
	wantAll(t, routinesOf("cut", "store 0"), nil, 1, verdict{0, impl.ErrStack})
	wantAll(t, routinesOf("cut", "end"), nil, 1, verdict{0, impl.ErrNest})
	wantAll(t, routinesOf("", "push 1; call 0; store 0"), nil, 0, verdict{})
	for k := range 6 {
		full := slices.Repeat(routinesOf("push 1; push 1; push 1; push 1; push 1; push 1; push 1; push 1; add; add; add; add; add; add; add; store 0"), 6)
		wantAll(t, full, nil, 0, verdict{})
		full[k].Code = parse("repeat 1; repeat 1; repeat 1; repeat 1; repeat 1")
		wantAll(t, full, nil, k, verdict{4, impl.ErrDepth})
	}
}

// What is wrong in any routine comes before the verification of the first one.
func TestVerifyAllOrder(t *testing.T) {
	for n := 1; n <= 6; n++ {
		for k := range n {
			for _, code := range [][]impl.Instr{{{}}, {{Op: 27}}, {{Op: 9, A: 1}}, {{Op: 25}, {Op: 26, A: 6}}, slices.Repeat(parse("cut"), 41), slices.Repeat(parse("cut"), longestList), slices.Repeat(parse("cut"), longestList+1)} {
				list := slices.Repeat(routinesOf("add"), n)
				list[k].Code = code
				wantAll(t, list, allKinds(), 0, verdict{0, impl.ErrBad})
			}
			list := slices.Repeat(routinesOf("cut"), n)
			list[k].Code = slices.Repeat(parse("cut"), 40)
			wantAll(t, list, allKinds(), 0, verdict{})
		}
	}
	for _, v := range []struct{ n, code int }{{6, 0}, {7, impl.ErrBad}, {8, impl.ErrBad}, {longestList, impl.ErrBad}, {longestList + 1, impl.ErrLong}, {20000, impl.ErrLong}} {
		wantAll(t, make([]impl.Routine, v.n), nil, 0, verdict{0, v.code})
		if v.code != 0 {
			wantAll(t, slices.Repeat(routinesOf("end"), v.n), []int{0}, 0, verdict{0, v.code})
		}
		wantAll(t, make([]impl.Routine, v.n), make([]int, longestList+1), 0, verdict{0, impl.ErrLong})
	}
	wantAll(t, []impl.Routine{{Code: make([]impl.Instr, 50)}}, make([]int, longestList+1), 0, verdict{0, impl.ErrLong})
	wantAll(t, []impl.Routine{{Code: make([]impl.Instr, 50)}}, make([]int, longestList), 0, verdict{0, impl.ErrBad})
}

// VerifyAll is VerifyCode of each routine in turn, with the routines before it.
func TestVerifyAllOfRandomRoutines(t *testing.T) {
	r := rand.New(rand.NewSource(16))
	for range 2000 {
		kinds := randomKinds(r)
		list := make([]impl.Routine, r.Intn(7))
		for k := range list {
			list[k].Code = acceptedCode(r, kinds, k, r.Intn(41))
			if r.Intn(6) == 0 {
				list[k].Code = mutate(r, list[k].Code)
			}
		}
		first, want := 0, verdict{}
		for k := range list {
			if v, _ := judge(list[k].Code, kinds, k); v.code != 0 {
				first, want = k, v
				break
			}
		}
		wantAll(t, list, kinds, first, want)
	}
}
