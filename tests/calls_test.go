package tests

import (
	"fmt"
	"math"
	"slices"
	"strings"
	"sync"
	"testing"

	"loop.example/g00684/impl"
)

// A call is a function of the program with its arguments fixed; run returns all results as one text.
type call struct {
	name string
	run  func() string
}

func textCalls(s string) []call {
	list := []call{
		{"NameOK", func() string { return fmt.Sprint(impl.NameOK(s)) }},
		{"CodeOf", func() string { return fmt.Sprint(impl.CodeOf(s)) }},
		{"SumOf", func() string { return fmt.Sprint(impl.SumOf(s)) }},
		{"FrameText", func() string { r, c := impl.FrameText(s); return fmt.Sprint(c, r) }},
		{"ReadFrame", func() string { r, c := impl.ReadFrame(s); return fmt.Sprint(c, r) }},
		{"HexOf", func() string { return impl.HexOf(s) }},
		{"BytesOf", func() string { r, c := impl.BytesOf(s); return fmt.Sprint(c, r) }},
		{"OpOf", func() string { return fmt.Sprint(impl.OpOf(s)) }},
		{"ReadInstr", func() string { return fmt.Sprint(impl.ReadInstr(s)) }},
		{"ReadCode", func() string { return fmt.Sprint(impl.ReadCode(s)) }},
	}
	for _, at := range edgeInts() {
		for _, size := range []int{0, 1, 2, 3, 4, at} {
			list = append(list, call{"TakeNumber", func() string { return fmt.Sprint(impl.TakeNumber(s, at, size)) }})
		}
	}
	return list
}

func numberCalls(n int) []call {
	list := []call{
		{"CodeWord", func() string { return impl.CodeWord(n) }},
		{"OpName", func() string { return impl.OpName(n) }},
		{"CostOf", func() string { return fmt.Sprint(impl.CostOf(n)) }},
		{"NewFb", func() string { return fmt.Sprint(impl.NewFb(n)) }},
		{"TakesOf", func() string { return fmt.Sprint(impl.TakesOf(n)) }},
	}
	for _, m := range edgeInts() {
		x := impl.Instr{Op: n, A: m}
		f := impl.Fb{Kind: n, On: true, Start: m, Count: m}
		list = append(list, call{"FbOK", func() string { return fmt.Sprint(impl.FbOK(f)) }})
		list = append(list, call{"InstrOK", func() string { return fmt.Sprint(impl.InstrOK(x)) }})
		list = append(list, call{"InstrText", func() string { r, c := impl.InstrText(x); return fmt.Sprint(c, r) }})
		list = append(list, call{"PutNumber", func() string { r, c := impl.PutNumber(n, m); return fmt.Sprint(c, r) }})
		for _, op := range []int{0, 1, 2, 3, n} {
			list = append(list, call{"Checked", func() string { return fmt.Sprint(impl.Checked(op, n, m)) }})
		}
	}
	return list
}

func listCalls(code []impl.Instr) []call {
	return []call{
		{"CodeText", func() string { r, c := impl.CodeText(code); return fmt.Sprint(c, r) }},
	}
}

func fbCalls(f impl.Fb) []call {
	list := []call{
		{"FbOK", func() string { return fmt.Sprint(impl.FbOK(f)) }},
		{"ValueOf", func() string { return fmt.Sprint(impl.ValueOf(f)) }},
		{"FbText", func() string { return fmt.Sprint(impl.FbText(f)) }},
	}
	ends := []int{math.MinInt, smallestValue - 1, smallestValue, -1, 0, 1, largestValue, largestValue + 1, math.MaxInt}
	for _, n := range ends {
		for _, now := range ends {
			for _, v := range []struct{ a, b bool }{{false, false}, {false, true}, {true, false}, {true, true}} {
				list = append(list, call{"StepBlock", func() string { return fmt.Sprint(impl.StepBlock(f, v.a, v.b, n, now)) }})
			}
		}
	}
	return list
}

func allCalls() []call {
	var list []call
	for _, s := range edgeTexts() {
		list = append(list, textCalls(s)...)
	}
	for _, n := range edgeInts() {
		list = append(list, numberCalls(n)...)
	}
	for _, code := range edgeCode() {
		list = append(list, listCalls(code)...)
	}
	for _, f := range edgeFbs() {
		list = append(list, fbCalls(f)...)
	}
	return list
}

func safely(t *testing.T, c call) string {
	defer func() {
		if r := recover(); r != nil {
			t.Error(c.name, "panics:", r)
		}
	}()
	return c.run()
}

// The order of the calls differs from round to round, so a call that depended on an earlier one would show.
func TestCallsAreRepeatable(t *testing.T) {
	list := allCalls()
	first := make([]string, len(list))
	for i, c := range list {
		first[i] = safely(t, c)
	}
	for i, c := range slices.Backward(list) {
		if got := safely(t, c); got != first[i] {
			t.Errorf("%s returns %q, then %q", c.name, short(first[i]), short(got))
		}
	}
}

func TestCallsDoNotShareState(t *testing.T) {
	list := allCalls()
	var group sync.WaitGroup
	results := make([][]string, 4)
	for k := range results {
		group.Go(func() {
			for _, c := range list {
				results[k] = append(results[k], safely(t, c))
			}
		})
	}
	group.Wait()
	for k := range results {
		if !slices.Equal(results[0], results[k]) {
			t.Error("results differ from goroutine to goroutine")
		}
	}
}

func TestArgumentsStayUnchanged(t *testing.T) {
	for _, s := range edgeTexts() {
		before := strings.Clone(s)
		for _, c := range textCalls(s) {
			safely(t, c)
		}
		if s != before {
			t.Errorf("the argument %q was changed", short(before))
		}
	}
}

// within copies the list into the middle of a longer one; the second result is all of that memory.
func within(code []impl.Instr) ([]impl.Instr, []impl.Instr) {
	other := impl.Instr{Op: impl.OpPoke, A: 6}
	all := slices.Repeat([]impl.Instr{other}, len(code)+100)
	copy(all[3:], code)
	return all[3 : 3+len(code)], all
}

// The elements before the slice and those in its unused capacity stay as they are too.
func TestListsStayUnchanged(t *testing.T) {
	for _, code := range edgeCode() {
		inside, all := within(code)
		before := slices.Clone(all)
		for _, c := range listCalls(inside) {
			safely(t, c)
			if !slices.Equal(all, before) {
				t.Errorf("%s changed its argument of %d instructions or the memory around it", c.name, len(code))
			}
		}
	}
}

// A block is passed by value, so this can fail only if Fb comes to hold memory that is shared.
func TestFbsStayUnchanged(t *testing.T) {
	list := edgeFbs()
	for i, before := range edgeFbs() {
		for _, c := range fbCalls(list[i]) {
			safely(t, c)
		}
		if list[i] != before {
			t.Errorf("the block %v became %v", before, list[i])
		}
	}
}

func TestEqualLists(t *testing.T) {
	for _, code := range edgeCode() {
		inside, _ := within(code)
		a, b := listCalls(slices.Clip(code)), listCalls(inside)
		for i := range a {
			if x, y := safely(t, a[i]), safely(t, b[i]); x != y {
				t.Errorf("%s of %d instructions returns %q and %q", a[i].name, len(code), short(x), short(y))
			}
		}
	}
}

// An empty slice and nil are the same argument.
func TestEmptyLists(t *testing.T) {
	a, b := listCalls(nil), listCalls([]impl.Instr{})
	for i := range a {
		if x, y := safely(t, a[i]), safely(t, b[i]); x != y {
			t.Errorf("%s of nil returns %q, of an empty slice %q", a[i].name, x, y)
		}
	}
}

// Equal arguments in different memory, with other bytes around them, yield equal results.
func TestEqualArguments(t *testing.T) {
	for _, s := range edgeTexts() {
		inside := ("<" + s + ">")[1 : 1+len(s)]
		a, b := textCalls(s), textCalls(inside)
		for i := range a {
			if x, y := safely(t, a[i]), safely(t, b[i]); x != y {
				t.Errorf("%s of %q returns %q and %q", a[i].name, short(s), short(x), short(y))
			}
		}
	}
}
