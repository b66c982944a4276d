package tests

import (
	"fmt"
	"math"
	"testing"

	"loop.example/g00684/impl"
)

// fbRow is what chapter 4 says about a kind; start and count tell whether it uses these fields.
type fbRow struct {
	constant, number int
	name, takes      string
	start, count     bool
}

// fbTable holds the kinds of chapter 4, written out so that a wrong constant does not change what the tests expect.
func fbTable() []fbRow {
	return []fbRow{
		{impl.FbTimer, 1, "timer", "bi", true, true},
		{impl.FbCounter, 2, "counter", "bbi", false, true},
		{impl.FbEdge, 3, "edge", "b", false, false},
		{impl.FbLatch, 4, "latch", "bb", false, false},
	}
}

// otherKinds holds numbers that are no kind, those that wrap around to one among them.
func otherKinds() []int {
	list := []int{math.MinInt, math.MinInt + 1, math.MinInt + 4, math.MaxInt, math.MaxInt - 1, 255, 256, 257, 258, 259, 260, 65536, 65537, 65540, 1<<31 - 1, 1 << 31, 1 << 32, 1<<32 + 1, 1<<32 + 2, 1<<32 + 3, 1<<32 + 4, -1 << 32, -1<<32 + 1}
	for n := -40; n <= 0; n++ {
		list = append(list, n)
	}
	for n := 5; n <= 40; n++ {
		list = append(list, n)
	}
	return list
}

// validFbs holds blocks of every kind with the fields that it uses at and within the ends of their ranges.
func validFbs() []impl.Fb {
	counts := []int{0, 1, 2, 5, largestValue - 1, largestValue}
	var list []impl.Fb
	for _, start := range counts {
		for _, count := range counts {
			list = append(list, impl.Fb{Kind: 1, On: true, Start: start, Count: count})
		}
	}
	for _, count := range counts {
		list = append(list, impl.Fb{Kind: 2, Count: count}, impl.Fb{Kind: 2, On: true, Count: count})
	}
	for _, kind := range []int{1, 3, 4} {
		list = append(list, impl.Fb{Kind: kind})
	}
	return append(list, impl.Fb{Kind: 3, On: true}, impl.Fb{Kind: 4, On: true})
}

// invalidFbs holds blocks with exactly one reason to be invalid, and some with several.
func invalidFbs() []impl.Fb {
	outside := []int{-1, -2, largestValue + 1, largestValue + 2, smallestValue, smallestValue - 1, 1 << 32, 1<<32 + 1, -1 << 32, math.MinInt, math.MaxInt}
	notZero := append([]int{1, 2, 255, 256, largestValue - 1, largestValue}, outside...)
	list := []impl.Fb{{}, {On: true}, {Kind: -1, Start: -1, Count: -1}, {Kind: 5, On: true, Start: math.MinInt, Count: math.MaxInt}}
	for _, kind := range otherKinds() {
		list = append(list, impl.Fb{Kind: kind}, impl.Fb{Kind: kind, On: true}, impl.Fb{Kind: kind, On: true, Start: 1, Count: 1})
	}
	for _, n := range outside {
		list = append(list, impl.Fb{Kind: 1, On: true, Start: n}, impl.Fb{Kind: 1, On: true, Count: n}, impl.Fb{Kind: 1, On: true, Start: n, Count: n})
		list = append(list, impl.Fb{Kind: 2, Count: n}, impl.Fb{Kind: 2, On: true, Count: n})
	}
	for _, n := range notZero {
		list = append(list, impl.Fb{Kind: 1, Start: n}, impl.Fb{Kind: 1, Count: n}, impl.Fb{Kind: 1, Start: n, Count: n})
		list = append(list, impl.Fb{Kind: 2, Start: n}, impl.Fb{Kind: 2, On: true, Start: n}, impl.Fb{Kind: 2, On: true, Start: n, Count: 1})
		for _, on := range []bool{false, true} {
			for _, kind := range []int{3, 4} {
				list = append(list, impl.Fb{Kind: kind, On: on, Start: n}, impl.Fb{Kind: kind, On: on, Count: n}, impl.Fb{Kind: kind, On: on, Start: n, Count: n})
			}
		}
	}
	return list
}

func TestKindsOfFbs(t *testing.T) {
	for i, row := range fbTable() {
		if row.number != i+1 || row.constant != i+1 {
			t.Errorf("constant of %s is %d, want %d", row.name, row.constant, i+1)
		}
		want := impl.Fb{Kind: row.number}
		if f, code := impl.NewFb(row.number); f != want || code != impl.OK || !impl.FbOK(f) {
			t.Errorf("NewFb(%d) = %v, %d", row.number, f, code)
		}
		if s, code := impl.TakesOf(row.number); s != row.takes || code != impl.OK {
			t.Errorf("TakesOf(%d) = %q, %d, want %q", row.number, s, code, row.takes)
		}
	}
}

func TestOtherKinds(t *testing.T) {
	for _, kind := range otherKinds() {
		if f, code := impl.NewFb(kind); f != (impl.Fb{}) || code != impl.ErrKind {
			t.Errorf("NewFb(%d) = %v, %d, want ErrKind", kind, f, code)
		}
		if s, code := impl.TakesOf(kind); s != "" || code != impl.ErrKind {
			t.Errorf("TakesOf(%d) = %q, %d, want ErrKind", kind, s, code)
		}
	}
}

func TestValidFbs(t *testing.T) {
	for _, f := range validFbs() {
		if !impl.FbOK(f) {
			t.Error("not valid:", f)
		}
		if n, code := impl.ValueOf(f); n != f.Count || code != impl.OK {
			t.Errorf("ValueOf(%v) = %d, %d", f, n, code)
		}
	}
}

func TestInvalidFbs(t *testing.T) {
	for _, f := range invalidFbs() {
		if impl.FbOK(f) {
			t.Error("valid:", f)
		}
		if n, code := impl.ValueOf(f); n != 0 || code != impl.ErrBad {
			t.Errorf("ValueOf(%v) = %d, %d, want ErrBad", f, n, code)
		}
		if s, code := impl.FbText(f); s != "" || code != impl.ErrBad {
			t.Errorf("FbText(%v) = %q, %d, want ErrBad", f, s, code)
		}
		wantStepCode(t, f, 0, 0, impl.ErrBad)
	}
}

// Every combination of fields around the ends of their ranges is decided from the table.
func TestFbOKByField(t *testing.T) {
	ends := []int{math.MinInt, smallestValue - 1, smallestValue, -1, 0, 1, largestValue - 1, largestValue, largestValue + 1, math.MaxInt}
	for _, row := range fbTable() {
		for _, on := range []bool{false, true} {
			for _, start := range ends {
				for _, count := range ends {
					want := start >= 0 && start <= largestValue && count >= 0 && count <= largestValue
					want = want && (row.start || start == 0) && (row.count || count == 0)
					want = want && (on || row.name != "timer" || start == 0 && count == 0)
					f := impl.Fb{Kind: row.number, On: on, Start: start, Count: count}
					if impl.FbOK(f) != want {
						t.Errorf("FbOK(%v) = %t", f, !want)
					}
				}
			}
		}
	}
}

func TestFbTexts(t *testing.T) {
	for _, v := range []struct {
		f    impl.Fb
		want string
	}{
		{impl.Fb{Kind: 1}, "timer off start 0 count 0"},
		{impl.Fb{Kind: 1, On: true}, "timer on start 0 count 0"},
		{impl.Fb{Kind: 1, On: true, Start: 4, Count: 9}, "timer on start 4 count 9"},
		{impl.Fb{Kind: 1, On: true, Start: 2147483647}, "timer on start 2147483647 count 0"},
		{impl.Fb{Kind: 1, On: true, Count: 2147483647}, "timer on start 0 count 2147483647"},
		{impl.Fb{Kind: 2}, "counter off count 0"},
		{impl.Fb{Kind: 2, Count: 7}, "counter off count 7"},
		{impl.Fb{Kind: 2, On: true, Count: 10}, "counter on count 10"},
		{impl.Fb{Kind: 2, On: true, Count: 2147483647}, "counter on count 2147483647"},
		{impl.Fb{Kind: 3}, "edge off"},
		{impl.Fb{Kind: 3, On: true}, "edge on"},
		{impl.Fb{Kind: 4}, "latch off"},
		{impl.Fb{Kind: 4, On: true}, "latch on"},
	} {
		if s, code := impl.FbText(v.f); s != v.want || code != impl.OK {
			t.Errorf("FbText(%v) = %q, %d, want %q", v.f, s, code, v.want)
		}
	}
}

func TestFbTextOfValidFbs(t *testing.T) {
	for _, f := range validFbs() {
		row := fbTable()[f.Kind-1]
		want := row.name + map[bool]string{false: " off", true: " on"}[f.On]
		if row.start {
			want += fmt.Sprint(" start ", f.Start)
		}
		if row.count {
			want += fmt.Sprint(" count ", f.Count)
		}
		if s, code := impl.FbText(f); s != want || code != impl.OK {
			t.Errorf("FbText(%v) = %q, %d, want %q", f, s, code, want)
		}
	}
}

// wantStepCode expects a code, and nothing beside it, whatever the booleans are.
func wantStepCode(t *testing.T, f impl.Fb, n, now, want int) {
	t.Helper()
	for _, v := range []struct{ a, b bool }{{false, false}, {false, true}, {true, false}, {true, true}} {
		x, result, code := impl.StepBlock(f, v.a, v.b, n, now)
		if x != (impl.Fb{}) || result || code != want {
			t.Errorf("StepBlock(%v, %t, %t, %d, %d) = %v, %t, %d, want %d", f, v.a, v.b, n, now, x, result, code, want)
		}
	}
}

func noValues() []int {
	return []int{math.MinInt, math.MinInt + 1, -1 << 62, -1 << 32, smallestValue - 2, smallestValue - 1, largestValue + 1, largestValue + 2, 1<<32 - 1, 1 << 32, 1<<32 + 1, math.MaxInt}
}

// Every kind rejects a preset that is no value and a time out of range, also one that does not use them.
func TestStepBlockOutOfRange(t *testing.T) {
	for _, f := range validFbs() {
		for _, n := range noValues() {
			wantStepCode(t, f, n, 0, impl.ErrRange)
			wantStepCode(t, f, n, largestValue, impl.ErrRange)
			wantStepCode(t, f, n, n, impl.ErrRange)
		}
		for _, now := range append(noValues(), -1, -2, smallestValue) {
			wantStepCode(t, f, 0, now, impl.ErrRange)
			wantStepCode(t, f, smallestValue, now, impl.ErrRange)
			wantStepCode(t, f, largestValue, now, impl.ErrRange)
		}
	}
}

func TestStepBlockAtTheEndsOfRanges(t *testing.T) {
	for _, f := range validFbs() {
		for _, n := range []int{smallestValue, largestValue} {
			for _, now := range []int{0, largestValue} {
				if _, _, code := impl.StepBlock(f, true, false, n, now); code != impl.OK {
					t.Errorf("StepBlock(%v, true, false, %d, %d) = %d", f, n, now, code)
				}
			}
		}
	}
}

// An invalid block comes before numbers out of range.
func TestStepBlockOrder(t *testing.T) {
	for _, f := range invalidFbs() {
		for _, n := range noValues() {
			wantStepCode(t, f, n, 0, impl.ErrBad)
			wantStepCode(t, f, 0, n, impl.ErrBad)
			wantStepCode(t, f, n, n, impl.ErrBad)
		}
		wantStepCode(t, f, 0, -1, impl.ErrBad)
	}
}
