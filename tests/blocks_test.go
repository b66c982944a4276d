package tests

import (
	"fmt"
	"math/rand"
	"slices"
	"strings"
	"testing"

	"loop.example/g00684/impl"
)

// A place is what an execution has come to before an instruction, or at its end, where there is none.
type place struct {
	x       impl.Instr
	core    impl.Core
	data    impl.Data
	elapsed int
}

// placesOf executes what is left of a core by the reference.
func placesOf(list []impl.Routine, d impl.Data, c impl.Core, now int) []place {
	var places []place
	j := &jumping{list: list, data: copyOfData(d), stack: slices.Clone(c.Stack), now: now}
	j.note = func(x impl.Instr, f impl.Frame) {
		core := copyOfCore(coreOf(j.stack, append(slices.Clip(j.callers), f)...))
		places = append(places, place{x, core, copyOfData(j.data), j.elapsed})
	}
	for i, f := range slices.Backward(c.Frames) {
		j.callers = slices.Clone(c.Frames[:i])
		j.frame(f)
	}
	return append(places, place{core: coreOf(j.stack), data: j.data, elapsed: j.elapsed})
}

// behindCut returns the index of the place at the end of the block that begins at place i.
func behindCut(places []place, i int) int {
	for i < len(places)-1 {
		i++
		if places[i-1].x.Op == 25 {
			break
		}
	}
	return i
}

// sectionsAt returns the ticks of the sections of places as an execution does.
func sectionsAt(places []place) []int {
	var list []int
	begin := 0
	for i, p := range places {
		if i > 0 && places[i-1].x.Op == 25 {
			list = append(list, p.elapsed-begin)
			begin = p.elapsed
		}
	}
	return append(list, places[len(places)-1].elapsed-begin)
}

// checkBlock compares BlockRun with the reference at place i.
func checkBlock(t *testing.T, list []impl.Routine, places []place, i, now int) {
	t.Helper()
	p, end := places[i], places[behindCut(places, i)]
	at := min(now+p.elapsed, largestValue)
	y, c, n, code := impl.BlockRun(list, p.data, p.core, at)
	if code != 0 || n != end.elapsed-p.elapsed || !equalCores(c, end.core) || !equalData(y, end.data) {
		t.Fatalf("BlockRun(%v, %v, %v, %d) = %v, %v, %d, %d, want %v, %v, %d", list, p.data, p.core, at, y, c, n, code, end.data, end.core, end.elapsed-p.elapsed)
	}
}

// checkSteps compares every step with the reference, and the blocks from about one of some places on; it returns how many steps there are.
func checkSteps(t *testing.T, list []impl.Routine, d impl.Data, c impl.Core, now, some int) int {
	t.Helper()
	kinds := kindsOf(d)
	places := placesOf(list, d, c, now)
	heavy := len(c.Frames) > 0 && costsOf(t, list, kinds)[c.Frames[0].Routine].Total > 3000
	for i, p := range places {
		if !impl.CoreOK(list, kinds, p.core) || !impl.DataOK(p.data) {
			t.Fatalf("not valid in %v: %v, %v", list, p.core, p.data)
		}
		if i == len(places)-1 {
			break
		}
		next := places[i+1]
		at := min(now+p.elapsed, largestValue)
		y, z, n, code := impl.StepCore(list, p.data, p.core, at)
		if code != 0 || n != next.elapsed-p.elapsed || !equalCores(z, next.core) || !equalData(y, next.data) {
			t.Fatalf("StepCore(%v, %v, %v, %d) = %v, %v, %d, %d, want %v, %v, %d", list, p.data, p.core, at, y, z, n, code, next.data, next.core, next.elapsed-p.elapsed)
		}
		switch {
		case i%some > 0:
		case heavy:
			wantNoBlock(t, list, p.data, p.core, at, impl.ErrLoad)
		default:
			checkBlock(t, list, places, i, now)
		}
	}
	return len(places) - 1
}

// checkBlocks executes a routine block by block, compares the blocks with the reference and with the bounds of chapter 6, and FlatRun with all of them.
func checkBlocks(t *testing.T, list []impl.Routine, k int, d impl.Data, now int) int {
	t.Helper()
	kinds := kindsOf(d)
	c, code := impl.NewCore(list, kinds, k)
	if code != 0 {
		t.Fatalf("NewCore(%v, %v, %d) has code %d", list, kinds, k, code)
	}
	places := placesOf(list, d, c, now)
	longest, count, i := 0, 0, 0
	for ; i < len(places)-1; count++ {
		checkBlock(t, list, places, i, now)
		end := behindCut(places, i)
		longest = max(longest, places[end].elapsed-places[i].elapsed)
		i = end
	}
	y, n, m, code := impl.FlatRun(list, k, d, now)
	if code != 0 || n != places[i].elapsed || m != longest || !equalData(y, places[i].data) {
		t.Fatalf("FlatRun(%v, %d, %v, %d) = %v, %d, %d, %d, want %v, %d, %d", list, k, d, now, y, n, m, code, places[i].data, places[i].elapsed, longest)
	}
	bounds := costsOf(t, list, kinds)[k]
	if most, _ := impl.LongestOf(bounds); m > most || n > bounds.Total || !isWithin(summaryOf(sectionsAt(places)), bounds) {
		t.Fatalf("routine %d of %v has sections of %v, its bounds are %v", k, list, sectionsAt(places), bounds)
	}
	return count
}

// The reference itself: all places of a routine that calls another one at two places.
func TestPlaces(t *testing.T) {
	list := routinesOf("load 0; store 0", "in 0; if; call 0; else; cut; end; repeat 2; cut; end; call 0")
	d := newData()
	d.Latched[0] = true
	places := placesOf(list, d, coreOf(nil, frameAt(1, 0)), 0)
	want := []impl.Core{
		coreOf(nil, frameAt(1, 0)), coreOf([]int{1}, frameAt(1, 1)), coreOf(nil, frameAt(1, 2)),
		coreOf(nil, frameAt(1, 3), frameAt(0, 0)), coreOf([]int{0}, frameAt(1, 3), frameAt(0, 1)), coreOf(nil, frameAt(1, 3)),
		coreOf(nil, frameAt(1, 6)), coreOf(nil, frameAt(1, 7, 2)), coreOf(nil, frameAt(1, 8, 2)), coreOf(nil, frameAt(1, 7, 1)), coreOf(nil, frameAt(1, 8, 1)),
		coreOf(nil, frameAt(1, 9)), coreOf(nil, frameAt(1, 10), frameAt(0, 0)), coreOf([]int{0}, frameAt(1, 10), frameAt(0, 1)), {},
	}
	if !slices.EqualFunc(places, want, func(p place, c impl.Core) bool { return equalCores(p.core, c) }) {
		t.Error("the places are", places)
	}
	if got := sectionsAt(places); !slices.Equal(got, []int{9, 2, 5}) {
		t.Error("the sections are", got)
	}
	if a, b, c := behindCut(places, 0), behindCut(places, 8), behindCut(places, 10); a != 8 || b != 10 || c != 14 {
		t.Error("the blocks end at", a, b, c)
	}
}

// wantBlock expects the core behind a block that changes no data.
func wantBlock(t *testing.T, list []impl.Routine, d impl.Data, c impl.Core, ticks int, next impl.Core) {
	t.Helper()
	for _, now := range []int{0, 77, largestValue - 2, largestValue} {
		y, z, n, code := impl.BlockRun(list, d, c, now)
		if code != 0 || n != ticks || !equalCores(z, next) || !equalData(y, d) || !impl.CoreOK(list, kindsOf(d), z) {
			t.Errorf("BlockRun(%s, %v, %v, %d) = %v, %v, %d, %d, want %v, %d", brief(list), d, c, now, y, z, n, code, next, ticks)
		}
	}
}

func TestBlockRun(t *testing.T) {
	d := newData()
	list := routinesOf("load 0; store 0", "call 0; cut; repeat 3; call 0; cut; end; call 0", "in 0; if; cut; else; call 1; end; cut")
	// Up to a cut, from cut to cut, and to the end.
	wantBlock(t, list, d, coreOf(nil, frameAt(0, 0)), 2, impl.Core{})
	wantBlock(t, list, d, coreOf([]int{0}, frameAt(0, 1)), 1, impl.Core{})
	wantBlock(t, list, d, coreOf(nil, frameAt(1, 0)), 5, coreOf(nil, frameAt(1, 2)))
	wantBlock(t, list, d, coreOf(nil, frameAt(1, 1)), 1, coreOf(nil, frameAt(1, 2)))
	wantBlock(t, list, d, coreOf(nil, frameAt(1, 2)), 6, coreOf(nil, frameAt(1, 5, 3)))
	wantBlock(t, list, d, coreOf(nil, frameAt(1, 5, 3)), 6, coreOf(nil, frameAt(1, 5, 2)))
	wantBlock(t, list, d, coreOf(nil, frameAt(1, 5, 2)), 6, coreOf(nil, frameAt(1, 5, 1)))
	wantBlock(t, list, d, coreOf(nil, frameAt(1, 5, 1)), 5, impl.Core{})
	wantBlock(t, list, d, coreOf(nil, frameAt(1, 4, 1), frameAt(0, 0)), 3, coreOf(nil, frameAt(1, 5, 1)))
	// Below another routine.
	wantBlock(t, list, d, coreOf(nil, frameAt(2, 0)), 9, coreOf(nil, frameAt(2, 5), frameAt(1, 2)))
	wantBlock(t, list, d, coreOf(nil, frameAt(2, 5), frameAt(1, 5, 1)), 7, impl.Core{})
	wantBlock(t, list, d, coreOf([]int{1}, frameAt(2, 1)), 2, coreOf(nil, frameAt(2, 3)))
	wantBlock(t, list, d, coreOf(nil, frameAt(2, 3)), 2, impl.Core{})
	wantBlock(t, list, d, coreOf(nil, frameAt(2, 6)), 1, impl.Core{})
}

// Behind a cut that is the last instruction of a routine, or at the end of one, the frame is removed and the block ends.
func TestBlockRunAtTheEnd(t *testing.T) {
	d := newData()
	list := routinesOf("load 0; store 0; cut", "call 0", "call 1; cut; call 1; call 0", "", "call 3; call 3", "repeat 2; call 1; end; call 4; call 4")
	wantBlock(t, list, d, coreOf(nil, frameAt(0, 0)), 3, impl.Core{})
	wantBlock(t, list, d, coreOf(nil, frameAt(0, 2)), 1, impl.Core{})
	wantBlock(t, list, d, coreOf(nil, frameAt(1, 0)), 5, impl.Core{})
	wantBlock(t, list, d, coreOf(nil, frameAt(2, 0)), 7, coreOf(nil, frameAt(2, 1)))
	wantBlock(t, list, d, coreOf(nil, frameAt(2, 1)), 1, coreOf(nil, frameAt(2, 2)))
	wantBlock(t, list, d, coreOf(nil, frameAt(2, 2)), 7, coreOf(nil, frameAt(2, 3)))
	wantBlock(t, list, d, coreOf(nil, frameAt(2, 3)), 5, impl.Core{})
	wantBlock(t, list, d, coreOf(nil, frameAt(4, 0)), 4, impl.Core{})
	wantBlock(t, list, d, coreOf(nil, frameAt(5, 0)), 8, coreOf(nil, frameAt(5, 2, 2)))
	wantBlock(t, list, d, coreOf(nil, frameAt(5, 2, 2)), 8, coreOf(nil, frameAt(5, 2, 1)))
	wantBlock(t, list, d, coreOf(nil, frameAt(5, 2, 1)), 13, impl.Core{})
	wantBlock(t, list, d, coreOf(nil, frameAt(5, 5), frameAt(4, 1)), 2, impl.Core{})
	wantBlock(t, list, d, coreOf(nil, frameAt(5, 4), frameAt(4, 1)), 8, impl.Core{})
}

// Each step takes place at its own time, which is limited; the number of ticks is not.
func TestBlockRunNearTheLargestTime(t *testing.T) {
	list := routinesOf("cut; flag 1; push 9; block 0; out 0; peek 0; poke 0; flag 1; push 9; block 1; out 1; cut; flag 1; push 9; block 2; out 2")
	for before := range 40 {
		now := largestValue - before
		d := newData(1, 1, 1)
		want := changed(d, func(d *impl.Data) {
			d.Blocks[0] = impl.Fb{Kind: 1, On: true, Start: min(now+2, largestValue)}
			d.Blocks[1] = impl.Fb{Kind: 1, On: true, Start: min(now+12, largestValue)}
		})
		y, c, n, code := impl.BlockRun(list, d, coreOf(nil, frameAt(0, 1)), now)
		if code != 0 || n != 17 || !equalData(y, want) || !equalCores(c, coreOf(nil, frameAt(0, 12))) {
			t.Errorf("at %d: %v, %v, %d ticks, %d, want %v", now, y, c, n, code, want)
		}
	}
}

// The load is the Total of the routine of the first frame, wherever the core is in it and whatever the others are.
func TestBlockRunOfLoads(t *testing.T) {
	d := newData()
	for n := 2982; n <= 3004; n++ {
		list := routinesOf(loadOf(n), "cut")
		last := len(list[0].Code) - 1
		c := coreOf(nil, frameAt(0, 2, 20, 20))
		if n <= 3000 {
			wantBlock(t, list, d, coreOf(nil, frameAt(0, 0)), 3, coreOf(nil, frameAt(0, 3, 20, 20)))
			wantBlock(t, list, d, c, 1, coreOf(nil, frameAt(0, 3, 20, 20)))
		} else {
			wantNoBlock(t, list, d, coreOf(nil, frameAt(0, 0)), 0, impl.ErrLoad)
			wantNoBlock(t, list, d, c, 0, impl.ErrLoad)
			wantNoBlock(t, list, d, coreOf(nil, frameAt(0, last)), 0, impl.ErrLoad)
		}
		// A step has no such limit.
		wantStep(t, list, d, c, 0, 1, d, coreOf(nil, frameAt(0, 3, 20, 20)))
		wantBlock(t, list, d, coreOf(nil, frameAt(1, 0)), 1, impl.Core{})
	}
	// Pin 0 is false, so the second routine would take a few ticks.
	for n, want := range map[int]int{2994: 0, 2995: 0, 2996: impl.ErrLoad, 3000: impl.ErrLoad} {
		list := routinesOf(loadOf(n), "in 0; if; call 0; end", "cut; call 1")
		for _, c := range []impl.Core{coreOf(nil, frameAt(1, 0)), coreOf([]int{0}, frameAt(1, 1)), coreOf(nil, frameAt(1, 3), frameAt(0, 0)), coreOf(nil, frameAt(1, 3))} {
			if _, _, _, code := impl.BlockRun(list, d, c, 0); code != want {
				t.Errorf("BlockRun of %v with a load of %d has code %d, want %d", c, n, code, want)
			}
			c.Frames = slices.Concat([]impl.Frame{frameAt(2, 2)}, c.Frames)
			wantNoBlock(t, append(list[:2:2], routinesOf("cut; call 1; cut; cut; cut")...), d, c, 0, impl.ErrLoad)
		}
	}
	endless := routinesOf("repeat 20; repeat 20; repeat 20; repeat 20; end; end; end; end", "repeat 20; repeat 20; call 0; end; end", "repeat 20; call 1; end")
	wantNoBlock(t, endless, d, coreOf(nil, frameAt(2, 0)), 0, impl.ErrLoad)
	wantNoBlock(t, endless, d, coreOf(nil, frameAt(0, 0)), 0, impl.ErrLoad)
	wantStep(t, endless, d, coreOf(nil, frameAt(2, 2, 1), frameAt(1, 3, 1, 1), frameAt(0, 7, 1)), 0, 1, d, coreOf(nil, frameAt(2, 2, 1), frameAt(1, 3, 1, 1)))
}

// The last result is the longest of all blocks, be it the first, one between two cuts, the last, or the only one.
func TestFlatRun(t *testing.T) {
	for _, v := range []struct {
		text           string
		ticks, longest int
	}{
		{"", 0, 0},
		{"cut", 1, 1},
		{"push 1; store 0", 2, 2},
		{"cut; cut", 2, 1},
		{"load 0; store 0; cut", 3, 3},
		{"cut; load 0; store 0", 3, 2},
		{"cut; load 0; store 0; cut; cut", 5, 3},
		{"load 0; load 0; mul; store 0; cut; load 0; store 0; cut; load 0; load 0; add; store 0", 13, 6},
		{"load 0; store 0; cut; load 0; load 0; mul; store 0; cut; load 0; load 0; add; store 0", 13, 6},
		{"load 0; store 0; cut; load 0; load 0; add; store 0; cut; load 0; load 0; div; store 0", 15, 7},
		{"repeat 3; load 0; store 0; cut; end", 13, 4},
		{"repeat 20; cut; end", 41, 2},
		{"repeat 20; end", 21, 21},
		{"call 0", 4, 3},
		{"call 0; call 0; call 0", 12, 3},
		{"call 1", 2, 2},
		{"call 2; call 1; cut", 9, 5},
		{"in 0; if; cut; load 0; store 0; else; load 0; store 0; end", 5, 5},
		{"in 0; not; if; cut; load 0; store 0; else; load 0; store 0; end; call 1", 9, 5},
	} {
		list := append(routinesOf("cut; cut", "", "call 0"), routinesOf(v.text)...)
		for _, now := range []int{0, 1, largestValue - 3, largestValue} {
			d := newData()
			y, n, longest, code := impl.FlatRun(list, 3, d, now)
			want, _, _ := impl.TreeRun(list, 3, d, now)
			if code != 0 || n != v.ticks || longest != v.longest || !equalData(y, want) {
				t.Errorf("FlatRun of %q at %d takes %d, at most %d, %d, and leaves %v, want %d, at most %d, and %v", v.text, now, n, longest, code, y, v.ticks, v.longest, want)
			}
		}
	}
}

// The time of a block is that of all blocks before it too.
func TestFlatRunAtTimes(t *testing.T) {
	list := routinesOf("cut; flag 1; push 9; block 0; out 0; cut; cut; flag 1; push 9; block 1; out 1; repeat 3; cut; end; flag 1; push 9; block 2; out 2")
	for _, now := range []int{0, 1, 1000, largestValue - 40, largestValue - 20, largestValue - 10, largestValue - 3, largestValue} {
		d := newData(1, 1, 1)
		y, n, longest, code := impl.FlatRun(list, 0, d, now)
		if code != 0 || n != 28 || longest != 8 {
			t.Errorf("FlatRun at %d takes %d, at most %d, %d", now, n, longest, code)
		}
		for i, begin := range []int{3, 11, 24} {
			if f := y.Blocks[i]; f.Start != min(now+begin, largestValue) {
				t.Errorf("at %d block %d is %v, want it to start %d later", now, i, f, begin)
			}
		}
	}
}

func TestBlocksAtTheLargestLoad(t *testing.T) {
	for _, n := range []int{2982, 2999, 3000} {
		list := routinesOf(loadOf(n))
		if count := checkBlocks(t, list, 0, newData(), largestValue-1500); count < 2400 {
			t.Error("blocks", count)
		}
		_, total, longest, code := impl.FlatRun(list, 0, newData(), 0)
		if code != 0 || total != n || longest != 4 {
			t.Error("FlatRun takes", total, longest, code, "want", n)
		}
	}
	// One block that is about as long.
	list := routinesOf("repeat 20; repeat 20; load 0; push 3; mul; store 0; end; end")
	if count := checkBlocks(t, list, 0, newData(), 0); count != 1 {
		t.Error("blocks", count)
	}
	if _, total, longest, code := impl.FlatRun(list, 0, newData(), 0); code != 0 || total != 2441 || longest != 2441 {
		t.Error("FlatRun takes", total, longest, code)
	}
}

// Every mixture of ifs, repeats, cuts and calls; each if goes by another bit of an input.
func TestStepsOfAllSmallCode(t *testing.T) {
	for size := range 4 {
		eachPart(size, func(text string) {
			for i := range 8 {
				text = strings.Replace(text, "in 0;", fmt.Sprintf("in %d;", i+1), 1)
			}
			for _, called := range []string{"", "cut", "load 0; store 0", "repeat 2; cut; end", "in 7; if; end"} {
				list := routinesOf(called, text, "call 1")
				for _, bits := range []int{0, 0xff, 0x55, 0xaa} {
					d := newData()
					for i := range d.Latched {
						d.Latched[i] = bits>>i&1 > 0
					}
					for k := range list {
						checkBlocks(t, list, k, d, 3)
					}
					c, _ := impl.NewCore(list, nil, 2)
					checkSteps(t, list, d, c, 3, 1)
				}
			}
		})
	}
}

// Drawn routines: each routine from its start, step by step and block by block.
func TestStepsOfRandomRoutines(t *testing.T) {
	r := rand.New(rand.NewSource(121))
	steps, blocks, refused := 0, 0, 0
	for range 700 {
		kinds := randomKinds(r)
		list := callingRoutines(r, kinds, 36)
		repeatLess(r, list, 6)
		d, now := mixedData(r, kinds), mixedTime(r)
		for k, a := range costsOf(t, list, kinds) {
			if a.Total > 3000 {
				wantNoRun(t, list, k, d, now, impl.ErrLoad)
				refused++
				continue
			}
			blocks += checkBlocks(t, list, k, d, now)
			if a.Total < 400 {
				c, _ := impl.NewCore(list, kinds, k)
				steps += checkSteps(t, list, d, c, now, 7)
			}
		}
	}
	if steps < 15000 || blocks < 5000 || refused < 50 {
		t.Error("steps:", steps, "blocks:", blocks, "refused routines:", refused)
	}
}

// Drawn cores: whatever the counters and the elements of a valid core are, it stays valid up to its end.
func TestStepsOfRandomCores(t *testing.T) {
	r := rand.New(rand.NewSource(122))
	steps, deepest := 0, 0
	for range 1500 {
		kinds := randomKinds(r)
		list := callingRoutines(r, kinds, 36)
		repeatLess(r, list, 12)
		d, c, now := mixedData(r, kinds), mixedCore(r, list, kinds), mixedTime(r)
		// Few of them take long, but then much too long.
		if len(c.Frames) == 0 || costsOf(t, list, kinds)[c.Frames[0].Routine].Total > 5000 {
			continue
		}
		deepest = max(deepest, len(c.Frames))
		steps += checkSteps(t, list, d, c, now, 5)
	}
	if steps < 30000 || deepest < 4 {
		t.Error("steps:", steps, "frames up to", deepest)
	}
}
