package tests

import (
	"math"
	"math/rand"
	"slices"
	"testing"

	"loop.example/g00684/impl"
)

// newData is the initial state for kinds, written out so that NewData can be compared with it.
func newData(kinds ...int) impl.Data {
	d := impl.Data{
		Globals: make([]int, 16),
		Latched: make([]bool, 8),
		Pins:    make([]bool, 8),
		Outs:    make([]bool, 8),
		Wires:   make([]bool, 8),
	}
	for _, kind := range kinds {
		d.Blocks = append(d.Blocks, impl.Fb{Kind: kind})
	}
	return d
}

// mixedData is a valid state without regularity: fields at and within the ends of their ranges.
func mixedData(r *rand.Rand, kinds []int) impl.Data {
	d := newData(kinds...)
	for i := range d.Globals {
		d.Globals[i] = mixedValue(r)
	}
	for i, kind := range kinds {
		d.Blocks[i] = mixedFb(r, kind)
	}
	for _, pins := range pinsOf(&d) {
		for i := range *pins {
			(*pins)[i] = r.Intn(2) > 0
		}
	}
	d.Wrong = []int{0, 1, 70, largestValue - 1, largestValue}[r.Intn(5)]
	return d
}

func mixedValue(r *rand.Rand) int {
	switch r.Intn(3) {
	case 0:
		return r.Intn(21) - 10
	case 1:
		return r.Intn(1<<32) + smallestValue
	}
	return []int{smallestValue, smallestValue + 1, -65536, -1, 0, 1, 46340, 46341, 65536, largestValue - 1, largestValue}[r.Intn(11)]
}

func mixedFb(r *rand.Rand, kind int) impl.Fb {
	list := validFbs()
	for {
		if f := list[r.Intn(len(list))]; f.Kind == kind {
			return f
		}
	}
}

// pinsOf returns the lists of booleans in their order.
func pinsOf(d *impl.Data) []*[]bool {
	return []*[]bool{&d.Latched, &d.Pins, &d.Outs, &d.Wires}
}

func copyOfData(d impl.Data) impl.Data {
	d.Globals, d.Blocks = slices.Clone(d.Globals), slices.Clone(d.Blocks)
	for _, pins := range pinsOf(&d) {
		*pins = slices.Clone(*pins)
	}
	return d
}

// changed returns a copy with one change.
func changed(d impl.Data, change func(*impl.Data)) impl.Data {
	d = copyOfData(d)
	change(&d)
	return d
}

// equalData compares all fields of any two states, whether they are valid or not.
func equalData(a, b impl.Data) bool {
	return slices.Equal(a.Globals, b.Globals) && slices.Equal(a.Blocks, b.Blocks) &&
		slices.Equal(a.Latched, b.Latched) && slices.Equal(a.Pins, b.Pins) &&
		slices.Equal(a.Outs, b.Outs) && slices.Equal(a.Wires, b.Wires) && a.Wrong == b.Wrong
}

func isZeroData(d impl.Data) bool {
	return equalData(d, impl.Data{})
}

func fullKinds() []int {
	return []int{1, 2, 3, 4, 4, 3, 2, 1}
}

// validDatas holds states with each field at the ends of its range, and mixed ones.
func validDatas() []impl.Data {
	r := rand.New(rand.NewSource(61))
	list := []impl.Data{newData(), newData(1), newData(fullKinds()...), changed(newData(), func(d *impl.Data) { d.Blocks = []impl.Fb{} })}
	for range 8 {
		list = append(list, mixedData(r, randomKinds(r)), mixedData(r, fullKinds()))
	}
	base := mixedData(r, allKinds())
	for _, n := range []int{smallestValue, smallestValue + 1, -1, 0, 1, largestValue - 1, largestValue} {
		for i := range 16 {
			list = append(list, changed(base, func(d *impl.Data) { d.Globals[i] = n }))
		}
		if n >= 0 {
			list = append(list, changed(base, func(d *impl.Data) { d.Wrong = n }))
		}
	}
	for _, f := range validFbs() {
		for _, i := range []int{0, 3} {
			list = append(list, changed(base, func(d *impl.Data) { d.Blocks[i] = f }))
		}
	}
	for n := range 9 {
		list = append(list, mixedData(r, fullKinds()[:n]))
	}
	return list
}

// invalidDatas holds states with exactly one reason to be invalid, and some with several.
func invalidDatas() []impl.Data {
	r := rand.New(rand.NewSource(62))
	base := mixedData(r, allKinds())
	list := []impl.Data{{}, {Wrong: -1}}
	add := func(change func(*impl.Data)) { list = append(list, changed(base, change)) }
	for _, n := range noValues() {
		for _, i := range []int{0, 1, 8, 14, 15} {
			add(func(d *impl.Data) { d.Globals[i] = n })
		}
		add(func(d *impl.Data) { d.Wrong = n })
	}
	for _, n := range []int{-1, -2, smallestValue} {
		add(func(d *impl.Data) { d.Wrong = n })
	}
	for _, n := range []int{0, 1, 15, 17, 18, 32, 255, 256, 272, longestList, longestList + 1, 65552} {
		add(func(d *impl.Data) { d.Globals = make([]int, n) })
	}
	add(func(d *impl.Data) { d.Globals = nil })
	for i := range 4 {
		for _, n := range []int{0, 1, 7, 9, 16, 255, 256, 264, longestList, longestList + 1, 65544} {
			add(func(d *impl.Data) { *pinsOf(d)[i] = make([]bool, n) })
		}
		add(func(d *impl.Data) { *pinsOf(d)[i] = nil })
	}
	for _, n := range []int{9, 10, 256, 257, longestList, longestList + 1} {
		add(func(d *impl.Data) { d.Blocks = slices.Repeat([]impl.Fb{{Kind: 3}}, n) })
	}
	for _, f := range invalidFbs() {
		for i := range base.Blocks {
			add(func(d *impl.Data) { d.Blocks[i] = f })
		}
	}
	add(func(d *impl.Data) { d.Blocks = append(slices.Repeat([]impl.Fb{{Kind: 3}}, 7), impl.Fb{Kind: 5}) })
	return list
}

// edgeDatas holds states, valid and invalid, few enough to combine them with other arguments.
func edgeDatas() []impl.Data {
	list := []impl.Data{newData(), newData(fullKinds()...)}
	for i, d := range append(validDatas(), invalidDatas()...) {
		if i%29 == 0 {
			list = append(list, d)
		}
	}
	base := mixedData(rand.New(rand.NewSource(63)), allKinds())
	return append(list, impl.Data{},
		changed(base, func(d *impl.Data) { d.Globals = make([]int, longestList+1) }),
		changed(base, func(d *impl.Data) { d.Blocks = slices.Repeat(d.Blocks, longestList) }),
		changed(base, func(d *impl.Data) { d.Wires = make([]bool, longestList) }),
		changed(base, func(d *impl.Data) { d.Wrong = math.MinInt }),
		changed(base, func(d *impl.Data) { d.Globals[3] = math.MaxInt }))
}

func TestMaxRun(t *testing.T) {
	if impl.MaxRun != 3000 {
		t.Error("MaxRun", impl.MaxRun)
	}
}

func wantNewData(t *testing.T, kinds []int) {
	t.Helper()
	d, code := impl.NewData(kinds)
	if !equalData(d, newData(kinds...)) || code != 0 || !impl.DataOK(d) {
		t.Errorf("NewData(%v) = %v, %d", kinds, d, code)
	}
	if list, code := impl.KindsOf(d); !slices.Equal(list, kinds) || code != 0 {
		t.Errorf("KindsOf(NewData(%v)) = %v, %d", kinds, list, code)
	}
}

func TestNewData(t *testing.T) {
	wantNewData(t, nil)
	wantNewData(t, []int{})
	for _, a := range allKinds() {
		for n := 1; n <= 8; n++ {
			wantNewData(t, slices.Repeat([]int{a}, n))
			wantNewData(t, append(fullKinds()[8-n:7], a))
		}
	}
	r := rand.New(rand.NewSource(64))
	for range 300 {
		wantNewData(t, randomKinds(r))
	}
}

func TestNewDataOfInvalidKinds(t *testing.T) {
	want := func(kinds []int, want int) {
		t.Helper()
		if d, code := impl.NewData(kinds); !isZeroData(d) || code != want {
			t.Errorf("NewData of %d kinds = %v, %d, want code %d", len(kinds), d, code, want)
		}
	}
	for _, kind := range otherKinds() {
		want([]int{kind}, impl.ErrBad)
		want([]int{kind, 1}, impl.ErrBad)
		want([]int{1, 2, 3, 4, 1, 2, 3, kind}, impl.ErrBad)
	}
	for _, n := range []int{9, 10, 16, 256, 257, longestList - 1, longestList} {
		want(slices.Repeat([]int{4}, n), impl.ErrBad)
		want(make([]int, n), impl.ErrBad)
	}
	for _, n := range []int{longestList + 1, longestList + 2, 65537} {
		want(slices.Repeat([]int{4}, n), impl.ErrLong)
		want(make([]int, n), impl.ErrLong)
	}
}

func TestValidDatas(t *testing.T) {
	for _, d := range validDatas() {
		if !impl.DataOK(d) || !impl.SameData(d, d) || !impl.SameData(d, copyOfData(d)) {
			t.Error("not valid, or not the same as its copy:", d)
		}
		var want []int
		for _, f := range d.Blocks {
			want = append(want, f.Kind)
		}
		if kinds, code := impl.KindsOf(d); !slices.Equal(kinds, want) || code != 0 {
			t.Errorf("KindsOf(%v) = %v, %d", d, kinds, code)
		}
	}
}

func TestInvalidDatas(t *testing.T) {
	valid := newData(1)
	for _, d := range invalidDatas() {
		if impl.DataOK(d) {
			t.Error("valid:", short(shown(d)))
		}
		if kinds, code := impl.KindsOf(d); len(kinds) != 0 || code != impl.ErrBad {
			t.Errorf("KindsOf(%s) = %v, %d, want ErrBad", short(shown(d)), kinds, code)
		}
		if impl.SameData(d, d) || impl.SameData(d, copyOfData(d)) || impl.SameData(d, valid) || impl.SameData(valid, d) {
			t.Error("the same as a state:", short(shown(d)))
		}
	}
}

// otherDatas holds valid states that differ from d, which has a block, in exactly one place.
func otherDatas(d impl.Data) []impl.Data {
	var list []impl.Data
	add := func(change func(*impl.Data)) { list = append(list, changed(d, change)) }
	for i := range d.Globals {
		add(func(d *impl.Data) { d.Globals[i] = -1 - d.Globals[i] })
	}
	for i := range d.Blocks {
		for _, f := range validFbs() {
			if f != d.Blocks[i] {
				add(func(d *impl.Data) { d.Blocks[i] = f })
			}
		}
	}
	add(func(d *impl.Data) { d.Blocks = d.Blocks[:len(d.Blocks)-1] })
	add(func(d *impl.Data) { d.Blocks = d.Blocks[1:] })
	add(func(d *impl.Data) { d.Blocks = nil })
	if len(d.Blocks) < 8 {
		add(func(d *impl.Data) { d.Blocks = append(d.Blocks, impl.Fb{Kind: 1}) })
	}
	for i := range 4 {
		for k := range 8 {
			add(func(d *impl.Data) { (*pinsOf(d)[i])[k] = !(*pinsOf(d)[i])[k] })
		}
	}
	add(func(d *impl.Data) { d.Wrong = largestValue - d.Wrong })
	return list
}

func TestSameDataByField(t *testing.T) {
	r := rand.New(rand.NewSource(65))
	for range 20 {
		a := mixedData(r, fullKinds()[:1+r.Intn(8)])
		for _, b := range otherDatas(a) {
			if !impl.DataOK(b) || impl.SameData(a, b) || impl.SameData(b, a) {
				t.Fatalf("the same, or not valid: %v and %v", a, b)
			}
		}
	}
	a, b := newData(), newData()
	a.Blocks = []impl.Fb{}
	if !impl.SameData(a, b) || !impl.SameData(b, a) {
		t.Error("no blocks are not the same as no blocks")
	}
}
