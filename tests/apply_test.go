package tests

import (
	"math"
	"math/rand"
	"slices"
	"testing"

	"loop.example/g00684/impl"
)

// one reads a single instruction.
func one(text string) impl.Instr {
	return parse(text)[0]
}

// belows holds what may be below the operands: nothing looks at it, so it need not be a value.
func belows() [][]int {
	return [][]int{nil, {}, {0}, {2, -1}, {largestValue, 1, smallestValue, 0}, {math.MaxInt, 7, math.MinInt, 1, 0}}
}

// wantApply expects the state and the elements, on whatever else the stack holds.
func wantApply(t *testing.T, d impl.Data, x impl.Instr, operands []int, now int, want impl.Data, pushed ...int) {
	t.Helper()
	for _, below := range belows() {
		stack := slices.Concat(below, operands)
		y, list, code := impl.ApplyOp(d, x, stack, now)
		if code != 0 || !equalData(y, want) || !impl.DataOK(y) || !slices.Equal(list, slices.Concat(below, pushed)) {
			t.Errorf("ApplyOp(%v, %v, %v, %d) = %v, %v, %d, want %v, %v", d, x, stack, now, y, list, code, want, pushed)
		}
	}
}

// wantApplied expects an unchanged state.
func wantApplied(t *testing.T, text string, operands []int, pushed ...int) {
	t.Helper()
	r := rand.New(rand.NewSource(71))
	for range 5 {
		d := mixedData(r, fullKinds())
		wantApply(t, d, one(text), operands, 50, d, pushed...)
	}
}

// wantNoApply expects a code and nothing beside it.
func wantNoApply(t *testing.T, d impl.Data, x impl.Instr, stack []int, now, want int) {
	t.Helper()
	y, list, code := impl.ApplyOp(d, x, stack, now)
	if code != want || !isZeroData(y) || len(list) != 0 {
		t.Errorf("ApplyOp(%s, %v, %v, %d) = %v, %v, %d, want code %d", short(shown(d)), x, short(shown(stack)), now, y, list, code, want)
	}
}

func TestApplyWithoutData(t *testing.T) {
	for _, n := range []int{smallestValue, smallestValue + 1, -7, -1, 0, 1, 42, largestValue} {
		d := newData()
		wantApply(t, d, impl.Instr{Op: 1, A: n}, nil, 0, d, n)
	}
	wantApplied(t, "flag 0", nil, 0)
	wantApplied(t, "flag 1", nil, 1)
	for _, v := range []struct{ a, b, and, or int }{{0, 0, 0, 0}, {0, 1, 0, 1}, {1, 0, 0, 1}, {1, 1, 1, 1}} {
		wantApplied(t, "and", []int{v.a, v.b}, v.and)
		wantApplied(t, "or", []int{v.a, v.b}, v.or)
	}
	wantApplied(t, "not", []int{0}, 1)
	wantApplied(t, "not", []int{1}, 0)
	wantApplied(t, "sel", []int{1, 5, 6}, 5)
	wantApplied(t, "sel", []int{0, 5, 6}, 6)
	wantApplied(t, "sel", []int{1, smallestValue, largestValue}, smallestValue)
	wantApplied(t, "sel", []int{0, smallestValue, largestValue}, largestValue)
	wantApplied(t, "cut", nil)
}

// edgeValues holds values at and around every limit.
func edgeValues() []int {
	list := slices.DeleteFunc(edgeInts(), func(n int) bool { return !isValue(n) })
	return append(list, 46340, 46341, -46340, -46341, 65535*32768, 1<<30+1)
}

func asBit(b bool) int {
	if b {
		return 1
	}
	return 0
}

func TestApplyComparisons(t *testing.T) {
	wantApplied(t, "less", []int{7, 10}, 1)
	wantApplied(t, "less", []int{10, 7}, 0)
	wantApplied(t, "less", []int{7, 7}, 0)
	wantApplied(t, "less", []int{smallestValue, largestValue}, 1)
	wantApplied(t, "less", []int{largestValue, smallestValue}, 0)
	wantApplied(t, "same", []int{7, 10}, 0)
	wantApplied(t, "same", []int{-7, -7}, 1)
	wantApplied(t, "same", []int{smallestValue, largestValue}, 0)
	d := newData()
	for _, a := range edgeValues() {
		for _, b := range edgeValues() {
			for _, v := range []struct{ op, want int }{{13, asBit(a < b)}, {14, asBit(a == b)}} {
				if _, list, code := impl.ApplyOp(d, impl.Instr{Op: v.op}, []int{a, b}, 0); code != 0 || !slices.Equal(list, []int{v.want}) {
					t.Errorf("operation %d of %d and %d = %v, %d", v.op, a, b, list, code)
				}
			}
		}
	}
}

// withWrong returns a copy with another count of failures.
func withWrong(d impl.Data, n int) impl.Data {
	d = copyOfData(d)
	d.Wrong = n
	return d
}

func TestApplyArithmetic(t *testing.T) {
	for _, v := range []struct {
		text string
		a, b int
		want int
	}{
		{"add", 7, 10, 17}, {"add", largestValue, smallestValue, -1}, {"add", largestValue - 1, 1, largestValue}, {"add", smallestValue, 0, smallestValue},
		{"sub", 7, 10, -3}, {"sub", 10, 7, 3}, {"sub", smallestValue + 1, 1, smallestValue}, {"sub", 0, largestValue, -largestValue},
		{"mul", 7, -10, -70}, {"mul", 65536, -32768, smallestValue}, {"mul", -1, largestValue, -largestValue}, {"mul", 0, smallestValue, 0},
		{"div", 7, 2, 3}, {"div", -7, 2, -3}, {"div", 7, -2, -3}, {"div", -7, -2, 3}, {"div", 2, 7, 0}, {"div", 0, 5, 0}, {"div", smallestValue, 1, smallestValue}, {"div", largestValue, -1, -largestValue},
	} {
		wantApplied(t, v.text, []int{v.a, v.b}, v.want)
	}
}

// A failed operation pushes 0 and is counted, up to the largest count.
func TestApplyFailedArithmetic(t *testing.T) {
	r := rand.New(rand.NewSource(72))
	for _, v := range []struct {
		text string
		a, b int
	}{
		{"add", largestValue, 1}, {"add", 1, largestValue}, {"add", smallestValue, -1}, {"add", largestValue, largestValue}, {"add", smallestValue, smallestValue},
		{"sub", smallestValue, 1}, {"sub", 0, smallestValue}, {"sub", largestValue, -1}, {"sub", smallestValue, largestValue}, {"sub", largestValue, smallestValue},
		{"mul", 65536, 32768}, {"mul", 46341, 46341}, {"mul", -1, smallestValue}, {"mul", smallestValue, -1}, {"mul", smallestValue, smallestValue}, {"mul", 65536, 65536},
		{"div", 7, 0}, {"div", 0, 0}, {"div", smallestValue, 0}, {"div", largestValue, 0}, {"div", smallestValue, -1},
	} {
		for _, w := range []struct{ before, after int }{{0, 1}, {1, 2}, {99, 100}, {largestValue - 2, largestValue - 1}, {largestValue - 1, largestValue}, {largestValue, largestValue}} {
			d := withWrong(mixedData(r, allKinds()), w.before)
			wantApply(t, d, one(v.text), []int{v.a, v.b}, 3, withWrong(d, w.after), 0)
		}
	}
}

func TestApplyArithmeticAtEdges(t *testing.T) {
	for op := 9; op <= 12; op++ {
		for _, a := range edgeValues() {
			for _, b := range edgeValues() {
				d := withWrong(newData(), 4)
				want, failed := resultOf(op-9, a, b)
				wrong := 4 + asBit(failed)
				y, list, code := impl.ApplyOp(d, impl.Instr{Op: op}, []int{a, b}, 0)
				if code != 0 || !slices.Equal(list, []int{want}) || !equalData(y, withWrong(d, wrong)) {
					t.Errorf("operation %d of %d and %d = %v, %d failures, %d, want %d, %d", op, a, b, list, y.Wrong, code, want, wrong)
				}
			}
		}
	}
}

// resultOf is what an operation on values pushes, and whether it failed.
func resultOf(op, a, b int) (int, bool) {
	n := exact(op, a, b)
	if n == nil || !n.IsInt64() || !isValue(int(n.Int64())) {
		return 0, true
	}
	return int(n.Int64()), false
}

func TestApplyGlobals(t *testing.T) {
	r := rand.New(rand.NewSource(73))
	for i := range 16 {
		for _, n := range []int{smallestValue, -1, 0, 1, 9, largestValue} {
			d := mixedData(r, allKinds())
			wantApply(t, d, impl.Instr{Op: 4, A: i}, []int{n}, 7, changed(d, func(d *impl.Data) { d.Globals[i] = n }))
			d.Globals[i] = n
			wantApply(t, d, impl.Instr{Op: 3, A: i}, nil, 7, d, n)
		}
	}
}

// Each pin with every combination of its four booleans; all other pins have the opposite ones.
func TestApplyPins(t *testing.T) {
	for pin := range 8 {
		for bits := range 16 {
			d := newData(1, 2)
			for i, list := range pinsOf(&d) {
				for k := range *list {
					(*list)[k] = (bits>>i&1 == 1) == (k == pin)
				}
			}
			wantApply(t, d, impl.Instr{Op: 5, A: pin}, nil, 0, d, bits&1)
			wantApply(t, d, impl.Instr{Op: 7, A: pin}, nil, 0, d, bits>>1&1)
			for n := range 2 {
				wantApply(t, d, impl.Instr{Op: 6, A: pin}, []int{n}, 0, changed(d, func(d *impl.Data) { d.Outs[pin] = n == 1 }))
				wantApply(t, d, impl.Instr{Op: 8, A: pin}, []int{n}, 0, changed(d, func(d *impl.Data) { d.Outs[pin], d.Wires[pin] = n == 1, n == 1 }))
			}
		}
	}
}

// operandsOf puts the operands of a step on the stack, deepest first.
func operandsOf(kind int, m moment) []int {
	switch kind {
	case 1:
		return []int{asBit(m.a), m.n}
	case 2:
		return []int{asBit(m.a), asBit(m.b), m.n}
	case 3:
		return []int{asBit(m.a)}
	}
	return []int{asBit(m.a), asBit(m.b)}
}

func TestApplyBlock(t *testing.T) {
	for _, v := range []struct {
		f        impl.Fb
		operands []int
		want     impl.Fb
		pushed   int
	}{
		{impl.Fb{Kind: 1}, []int{1, 10}, impl.Fb{Kind: 1, On: true, Start: 50}, 0},
		{impl.Fb{Kind: 1}, []int{1, 0}, impl.Fb{Kind: 1, On: true, Start: 50}, 1},
		{impl.Fb{Kind: 1, On: true, Start: 30}, []int{1, 21}, impl.Fb{Kind: 1, On: true, Start: 30, Count: 20}, 0},
		{impl.Fb{Kind: 1, On: true, Start: 30}, []int{1, 20}, impl.Fb{Kind: 1, On: true, Start: 30, Count: 20}, 1},
		{impl.Fb{Kind: 1, On: true, Start: 30}, []int{0, 20}, impl.Fb{Kind: 1}, 0},
		{impl.Fb{Kind: 2, Count: 4}, []int{1, 0, 5}, impl.Fb{Kind: 2, On: true, Count: 5}, 1},
		{impl.Fb{Kind: 2, Count: 4}, []int{1, 0, 6}, impl.Fb{Kind: 2, On: true, Count: 5}, 0},
		{impl.Fb{Kind: 2, Count: 4}, []int{0, 1, 0}, impl.Fb{Kind: 2}, 1},
		{impl.Fb{Kind: 2, Count: 4}, []int{0, 0, 4}, impl.Fb{Kind: 2, Count: 4}, 1},
		{impl.Fb{Kind: 3}, []int{1}, impl.Fb{Kind: 3, On: true}, 1},
		{impl.Fb{Kind: 3, On: true}, []int{1}, impl.Fb{Kind: 3, On: true}, 0},
		{impl.Fb{Kind: 3, On: true}, []int{0}, impl.Fb{Kind: 3}, 0},
		{impl.Fb{Kind: 4}, []int{1, 0}, impl.Fb{Kind: 4, On: true}, 1},
		{impl.Fb{Kind: 4}, []int{0, 1}, impl.Fb{Kind: 4}, 0},
		{impl.Fb{Kind: 4, On: true}, []int{0, 0}, impl.Fb{Kind: 4, On: true}, 1},
		{impl.Fb{Kind: 4, On: true}, []int{0, 1}, impl.Fb{Kind: 4}, 0},
	} {
		d := newData(1, 2, 3, 4)
		d.Blocks[2] = v.f
		wantApply(t, d, one("block 2"), v.operands, 50, changed(d, func(d *impl.Data) { d.Blocks[2] = v.want }), v.pushed)
	}
}

// Every step from every state, in each place among other blocks.
func TestApplyBlockFromEveryState(t *testing.T) {
	r := rand.New(rand.NewSource(74))
	d := mixedData(r, fullKinds())
	for i, f := range validFbs() {
		at := i % 8
		d.Blocks[at] = f
		for _, m := range momentsAround() {
			next, result := stepByRule(f, m)
			want := changed(d, func(d *impl.Data) { d.Blocks[at] = next })
			y, list, code := impl.ApplyOp(d, impl.Instr{Op: 19, A: at}, operandsOf(f.Kind, m), m.now)
			if code != 0 || !equalData(y, want) || !slices.Equal(list, []int{asBit(result)}) {
				t.Errorf("block %d of %v with %v = %v, %v, %d, want %v, %t", at, d, m, y, list, code, next, result)
			}
		}
	}
}

func TestApplyValue(t *testing.T) {
	r := rand.New(rand.NewSource(75))
	for i, f := range validFbs() {
		d := mixedData(r, fullKinds())
		d.Blocks[i%8] = f
		wantApply(t, d, impl.Instr{Op: 20, A: i % 8}, nil, 9, d, f.Count)
	}
}

func TestApplyBlocksThatDoNotExist(t *testing.T) {
	for n := range 9 {
		d := newData(fullKinds()[:n]...)
		for a := range 8 {
			for _, stack := range [][]int{nil, {1}, {1, 0, 5}, slices.Repeat([]int{1}, 8), slices.Repeat([]int{1}, 9), make([]int, longestList)} {
				if a >= n {
					wantNoApply(t, d, impl.Instr{Op: 19, A: a}, stack, 4, impl.ErrNone)
					wantNoApply(t, d, impl.Instr{Op: 20, A: a}, stack, 4, impl.ErrNone)
				}
			}
			if _, _, code := impl.ApplyOp(d, impl.Instr{Op: 20, A: a}, nil, 4); (code == 0) != (a < n) {
				t.Error("value", a, "of", n, "blocks has code", code)
			}
		}
	}
}

// applicable holds the operations that ApplyOp executes, with their effects on the stack.
func applicable() []plainRow {
	return slices.DeleteFunc(plainRows(), func(row plainRow) bool { return row.x.Op == 26 })
}

// Each operand in turn at and beyond the ends of its range, in a stack that is right otherwise.
func TestApplyOperands(t *testing.T) {
	d := newData(allKinds()...)
	for _, row := range applicable() {
		for i := range row.takes {
			for _, n := range append(edgeInts(), noValues()...) {
				stack := slices.Repeat([]int{1}, len(row.takes)+3)
				stack[3+i] = n
				if isValue(n) && row.takes[i] == 'i' || n == 0 || n == 1 {
					if _, list, code := impl.ApplyOp(d, row.x, stack, 0); code != 0 || len(list) != 3+len(row.gives) {
						t.Errorf("%v on %v leaves %v, %d", row.x, stack, list, code)
					}
					continue
				}
				wantNoApply(t, d, row.x, stack, 0, impl.ErrStack)
			}
		}
	}
}

// The height of the stack alone decides for operands that are right, and so does the height behind the operation.
func TestApplyByHeight(t *testing.T) {
	r := rand.New(rand.NewSource(76))
	d := newData(allKinds()...)
	for _, row := range applicable() {
		for _, height := range []int{0, 1, 2, 3, 4, 5, 6, 7, 8, 9, 10, 11, 12, 13, 40, longestList - 1, longestList} {
			stack := make([]int, height)
			for i := range stack {
				stack[i] = r.Intn(2)
			}
			rest := height - len(row.takes)
			if rest < 0 || rest+len(row.gives) > 8 {
				wantNoApply(t, d, row.x, stack, 0, impl.ErrStack)
				continue
			}
			_, list, code := impl.ApplyOp(d, row.x, stack, 0)
			if code != 0 || len(list) != rest+len(row.gives) || !slices.Equal(list[:rest], stack[:rest]) {
				t.Errorf("%v on %v leaves %v, %d", row.x, stack, list, code)
			}
		}
	}
}

func TestApplyControl(t *testing.T) {
	d := newData(fullKinds()...)
	for _, text := range []string{"if", "else", "end", "repeat 1", "repeat 20", "call 0", "call 5"} {
		for _, stack := range [][]int{nil, {}, {0}, {1}, {5, 1}, {2}, slices.Repeat([]int{1}, 8), slices.Repeat([]int{1}, 9), make([]int, longestList)} {
			wantNoApply(t, d, one(text), stack, 0, impl.ErrKind)
			wantNoApply(t, newData(), one(text), stack, largestValue, impl.ErrKind)
		}
	}
}

// Every operation needs a time in its range, also one that does not use it.
func TestApplyTimes(t *testing.T) {
	d := newData(allKinds()...)
	for _, row := range applicable() {
		stack := slices.Repeat([]int{1}, len(row.takes))
		for _, now := range []int{0, 1, largestValue - 1, largestValue} {
			if _, _, code := impl.ApplyOp(d, row.x, stack, now); code != 0 {
				t.Error(row.x, "at", now, "has code", code)
			}
		}
		for _, now := range append(noValues(), -1, -2, smallestValue) {
			wantNoApply(t, d, row.x, stack, now, impl.ErrRange)
		}
	}
}

func TestApplyInvalid(t *testing.T) {
	valid := newData(allKinds()...)
	for _, x := range invalidInstrs() {
		wantNoApply(t, valid, x, []int{1, 1, 1}, 0, impl.ErrBad)
	}
	for _, d := range invalidDatas() {
		wantNoApply(t, d, one("cut"), nil, 0, impl.ErrBad)
		wantNoApply(t, d, one("push 1"), nil, 0, impl.ErrBad)
	}
}

// Each error beside all later ones that it can meet, and the one for long arguments beside all.
func TestApplyOrder(t *testing.T) {
	valid, bad := newData(), newData()
	bad.Wrong = -1
	invalid := impl.Instr{Op: 26, A: 6}
	full := slices.Repeat([]int{2}, 9)
	for _, long := range [][]int{make([]int, longestList+1), make([]int, longestList+2), make([]int, 65537)} {
		for _, d := range []impl.Data{valid, bad} {
			for _, x := range []impl.Instr{invalid, one("if"), one("block 0"), one("not"), one("push 1"), one("cut")} {
				wantNoApply(t, d, x, long, 0, impl.ErrLong)
				wantNoApply(t, d, x, long, -1, impl.ErrLong)
			}
		}
	}
	for _, stack := range [][]int{nil, {2}, full, make([]int, longestList)} {
		for _, x := range []impl.Instr{invalid, one("if"), one("block 0"), one("not"), one("push 1"), one("cut")} {
			wantNoApply(t, bad, x, stack, -1, impl.ErrBad)
			wantNoApply(t, bad, x, stack, 0, impl.ErrBad)
			wantNoApply(t, valid, invalid, stack, -1, impl.ErrBad)
			wantNoApply(t, valid, invalid, stack, 0, impl.ErrBad)
			if x != invalid {
				wantNoApply(t, valid, x, stack, -1, impl.ErrRange)
				wantNoApply(t, valid, x, stack, largestValue+1, impl.ErrRange)
			}
		}
		for _, text := range []string{"if", "else", "end", "repeat 2", "call 0"} {
			wantNoApply(t, valid, one(text), stack, 0, impl.ErrKind)
		}
		wantNoApply(t, valid, one("block 0"), stack, 0, impl.ErrNone)
		wantNoApply(t, valid, one("value 7"), stack, 0, impl.ErrNone)
		wantNoApply(t, valid, one("and"), stack, 0, impl.ErrStack)
	}
}

// applyByRule is the reference for one operation that finds its operands: chapters 3 and 7, operation by operation.
func applyByRule(d *impl.Data, x impl.Instr, stack []int, now int) []int {
	row := effectOf(x, kindsOf(*d))
	rest := slices.Clone(stack[:len(stack)-len(row.takes)])
	operands := append(slices.Clone(stack[len(rest):]), 0, 0, 0)
	a, b, c := operands[0], operands[1], operands[2]
	switch x.Op {
	case 4:
		d.Globals[x.A] = a
	case 6:
		d.Outs[x.A] = a > 0
	case 8:
		d.Outs[x.A], d.Wires[x.A] = a > 0, a > 0
	case 25:
	case 9, 10, 11, 12:
		n, failed := resultOf(x.Op-9, a, b)
		d.Wrong = min(d.Wrong+asBit(failed), largestValue)
		return append(rest, n)
	case 19:
		m := moment{a: a > 0, b: b > 0, now: now}
		m.n = map[int]int{1: b, 2: c}[d.Blocks[x.A].Kind]
		next, result := stepByRule(d.Blocks[x.A], m)
		d.Blocks[x.A] = next
		return append(rest, asBit(result))
	case 1, 2:
		return append(rest, x.A)
	case 3:
		return append(rest, d.Globals[x.A])
	case 20:
		return append(rest, d.Blocks[x.A].Count)
	case 5:
		return append(rest, asBit(d.Latched[x.A]))
	case 7:
		return append(rest, asBit(d.Pins[x.A]))
	case 18:
		return append(rest, map[int]int{1: b, 0: c}[a])
	default:
		return append(rest, map[int]int{13: asBit(a < b), 14: asBit(a == b), 15: min(a, b), 16: max(a, b), 17: asBit(a == 0)}[x.Op])
	}
	return rest
}

func kindsOf(d impl.Data) []int {
	var kinds []int
	for _, f := range d.Blocks {
		kinds = append(kinds, f.Kind)
	}
	return kinds
}

func mixedStack(r *rand.Rand, types string) []int {
	stack := make([]int, len(types))
	for i := range types {
		stack[i] = r.Intn(2)
		if types[i] == 'i' {
			stack[i] = mixedValue(r)
		}
	}
	return stack
}

// A history of operations on one state, with operands of the right types and values by chance.
func TestApplyOfRandomHistories(t *testing.T) {
	r := rand.New(rand.NewSource(77))
	rows := applicable()
	for range 60 {
		d := mixedData(r, allKinds())
		for range 400 {
			row := rows[r.Intn(len(rows))]
			x := row.x
			if most := opTable()[x.Op-1].high; x.Op != 19 {
				x.A = r.Intn(min(most, 15) + 1)
			}
			if x.Op == 20 {
				x.A %= 4
			}
			stack := mixedStack(r, "iiiiiiii"[:r.Intn(8-len(row.takes))]+row.takes)
			now := r.Intn(20)
			want := copyOfData(d)
			wantStack := applyByRule(&want, x, stack, now)
			y, list, code := impl.ApplyOp(d, x, stack, now)
			if code != 0 || !equalData(y, want) || !slices.Equal(list, wantStack) {
				t.Fatalf("ApplyOp(%v, %v, %v, %d) = %v, %v, %d, want %v, %v", d, x, stack, now, y, list, code, want, wantStack)
			}
			d = y
		}
	}
}
