package tests

import (
	"math/rand"
	"slices"
	"strings"
	"testing"

	"loop.example/g00684/impl"
)

// loaded is the processor of a program that must be admitted.
func loaded(t *testing.T, p impl.Program) impl.Plc {
	t.Helper()
	image, _ := impl.ImageText(p)
	x, code := impl.LoadPlc(image)
	if code != 0 || !equalPlcs(x, newPlc(p)) || !impl.PlcOK(x) {
		t.Fatalf("LoadPlc of %v = %v, %d", p, x, code)
	}
	return x
}

func wantNoPlc(t *testing.T, what, image string, want int) {
	t.Helper()
	if x, code := impl.LoadPlc(image); code != want || !isZeroPlc(x) {
		t.Errorf("LoadPlc %s (%x) = %s, %d, want code %d", what, short(image), brief(x), code, want)
	}
}

// Each field of a loaded processor by itself.
func TestLoadPlc(t *testing.T) {
	for _, p := range []impl.Program{busyProgram(), impl.DemoProgram(), easyProgram(), programOf(nil, make([]impl.Routine, 1), cyclic(2, 2, 0)), programOf(fullKinds(), routinesOf("cut"), event(5000, 5000, 7, 4, 0))} {
		image, _ := impl.ImageText(p)
		x, code := impl.LoadPlc(image)
		d := x.Data
		for name, holds := range map[string]bool{
			"code": code == 0, "Program": equalPrograms(x.Program, p) && impl.SameProgram(x.Program, p),
			"Globals": slices.Equal(d.Globals, make([]int, 16)), "Blocks": slices.Equal(d.Blocks, newData(p.Kinds...).Blocks), "Wrong": d.Wrong == 0,
			"Latched": slices.Equal(d.Latched, pinsOn()), "Pins": slices.Equal(d.Pins, pinsOn()), "Outs": slices.Equal(d.Outs, pinsOn()), "Wires": slices.Equal(d.Wires, p.Safe),
			"Mode": x.Mode == 1, "Now": x.Now == 0, "Since": x.Since == 0, "Late": x.Late == 0, "Busy": !x.Busy, "Jobs": len(x.Jobs) == 0, "Log": len(x.Log) == 0,
			"Sources": len(x.Sources) == len(p.Tasks), "PlcOK": impl.PlcOK(x),
		} {
			if !holds {
				t.Errorf("%s of the processor of %s: %s, %d", name, brief(p), brief(x), code)
			}
		}
		for k, s := range x.Sources {
			if !equalSources(s, impl.Source{Last: -1}) {
				t.Errorf("source %d of the processor of %s is %v", k, brief(p), s)
			}
		}
		wantPlc(t, x, true)
	}
}

func TestLoadPlcOfSafeOutputs(t *testing.T) {
	p := impl.DemoProgram()
	for bits := range 256 {
		p.Safe = pinsByBits(bits)
		if x := loaded(t, p); !slices.Equal(x.Data.Wires, pinsByBits(bits)) {
			t.Error("with the safe outputs", bits, "Wires are", x.Data.Wires)
		}
	}
}

// The codes of ReadImage, of which some have several causes.
func TestLoadPlcOfNoImage(t *testing.T) {
	good := goodFrame(payloadOf(busyProgram()))
	task := tasksPart(cyclic(90, 90, 0)) + "\x00"
	routine := func(text string) string {
		return goodFrame(kindsPart() + routinesPartOf(codeBytes(parse(text))) + task)
	}
	for _, v := range []struct {
		what, image string
		code        int
	}{
		{"of a long text", strings.Repeat("P", longestText+1), impl.ErrLong}, {"of a text of MaxText bytes", strings.Repeat("P", longestText), impl.ErrForm},
		{"of a long image", good + strings.Repeat("x", longestText), impl.ErrLong}, {"of the longest payload", goodFrame(mixedText(longestText - 10)), impl.ErrMany},
		{"of nothing", "", impl.ErrEnd}, {"of nine bytes", good[:9], impl.ErrEnd}, {"of another mark", "plc1" + good[4:], impl.ErrForm},
		{"of half an image", good[:len(good)/2], impl.ErrSize}, {"of an image and a byte", good + "x", impl.ErrSize}, {"of another sum", replaced(good, len(good)-1, byteOf(int(good[len(good)-1])^1)), impl.ErrSum},
		{"of an empty payload", goodFrame(""), impl.ErrEnd}, {"of a payload that is cut", goodFrame(payloadOf(busyProgram())[:70]), impl.ErrEnd}, {"of a negative length", goodFrame("\x00\x01\xff\xff"), impl.ErrEnd},
		{"of 9 kinds", goodFrame("\x09" + payloadOf(busyProgram())[1:]), impl.ErrMany}, {"of 7 routines", goodFrame("\x00\x07"), impl.ErrMany}, {"of 6 tasks", goodFrame("\x00\x00\x06"), impl.ErrMany}, {"of long code", goodFrame("\x00\x01\x29\x00" + strings.Repeat("\x19", 41)), impl.ErrMany},
		{"of an operation 27", goodFrame("\x00\x01\x01\x00\x1b"), impl.ErrOp}, {"of a flag 2", goodFrame("\x00\x01\x05\x00\x02\x02\x00\x00\x00"), impl.ErrRange}, {"of more than a program", goodFrame(payloadOf(busyProgram()) + "\x00"), impl.ErrSize},
		{"of a kind 5", goodFrame(kindsPart(5) + routinesPartOf("") + task), impl.ErrBad}, {"of a block that is missing", routine("value 0; store 0"), impl.ErrNone}, {"of a call of itself", routine("call 0"), impl.ErrCall},
		{"of an operand that is missing", routine("add"), impl.ErrStack}, {"of an operand of another type", routine("in 0; store 0"), impl.ErrType}, {"of nine elements", routine(strings.Repeat("push 1;", 9)), impl.ErrFull},
		{"of five structures", routine(strings.Repeat("repeat 1;", 5)), impl.ErrDepth}, {"of an end", routine("end"), impl.ErrNest}, {"of no tasks", goodFrame(kindsPart() + routinesPartOf("") + "\x00\x00"), impl.ErrNone},
		{"of a task of a kind 3", goodFrame(kindsPart() + routinesPartOf("") + tasksPart(impl.Task{Kind: 3, Period: 9, Deadline: 9, Queue: 1}) + "\x00"), impl.ErrKind}, {"of a task without a routine", goodFrame(kindsPart() + routinesPartOf("") + tasksPart(cyclic(9, 9, 1)) + "\x00"), impl.ErrCall},
	} {
		wantNoPlc(t, v.what, v.image, v.code)
		if _, code := impl.ReadImage(v.image); code != v.code {
			t.Error("ReadImage", v.what, "has code", code, "want", v.code)
		}
	}
	for _, s := range edgeTexts() {
		if _, code := impl.ReadImage(s); code != 0 {
			wantNoPlc(t, "of some text", s, code)
		}
	}
}

// P10: what is not admitted is not loaded. The codes of AdmitProgram come behind those of ReadImage.
func TestLoadPlcOfProgramsNotAdmitted(t *testing.T) {
	load := programOf(nil, routinesOf(lasting(10)), cyclic(9, 9, 0))
	late := changedProgram(easyProgram(), func(p *impl.Program) { p.Tasks[3].Deadline = 47 })
	full := queued(9, 1)
	for _, v := range []struct {
		program impl.Program
		code    int
	}{
		{load, impl.ErrLoad}, {late, impl.ErrLate}, {full, impl.ErrFull},
		{changedProgram(impl.DemoProgram(), func(p *impl.Program) { p.Tasks[0].Deadline = 18 }), impl.ErrLate},
		{changedProgram(impl.DemoProgram(), func(p *impl.Program) { p.Tasks[1].Deadline = 38 }), impl.ErrLate},
		{changedProgram(impl.DemoProgram(), func(p *impl.Program) { p.Tasks[0].Period = 18 }), impl.ErrFull},
		{changedProgram(impl.DemoProgram(), func(p *impl.Program) { p.Tasks[1].Period, p.Tasks[1].Deadline = 27, 27 }), impl.ErrLoad},
	} {
		image, code := impl.ImageText(v.program)
		if code != 0 {
			t.Fatal("ImageText", code)
		}
		wantNoPlc(t, "of a program that is not admitted", image, v.code)
		wantNoPlc(t, "of such a program with another sum", replaced(image, len(image)-2, byteOf(int(image[len(image)-2])^255)), impl.ErrSum)
		wantNoPlc(t, "of such a program and a byte", image+"\x00", impl.ErrSize)
	}
	for _, v := range overloads() {
		image, _ := impl.ImageText(v.program)
		wantNoPlc(t, "of too much load", image, impl.ErrLoad)
	}
	// One tick more, and it is admitted.
	loaded(t, changedProgram(impl.DemoProgram(), func(p *impl.Program) { p.Tasks[0].Deadline, p.Tasks[1].Deadline = 19, 39 }))
	loaded(t, queued(9, 2))
	r := rand.New(rand.NewSource(132))
	seen := map[int]int{}
	for range 2000 {
		p := drawnProgram(r)
		if r.Intn(4) > 0 {
			atLimits(r, &p)
		}
		_, _, code := admitByRule(p)
		seen[code]++
		if code == 0 {
			loaded(t, p)
			continue
		}
		image, _ := impl.ImageText(p)
		wantNoPlc(t, "of a drawn program that is not admitted", image, code)
	}
	for _, code := range []int{0, impl.ErrLoad, impl.ErrLate, impl.ErrFull} {
		if seen[code] < 30 {
			t.Error("code", code, "was seen", seen[code], "times")
		}
	}
}

// An image that is damaged in one byte, that is cut, or that has a byte more.
func TestLoadPlcOfDamagedImages(t *testing.T) {
	for _, p := range []impl.Program{busyProgram(), impl.DemoProgram(), programOf(nil, make([]impl.Routine, 1), cyclic(2, 2, 0))} {
		image, _ := impl.ImageText(p)
		for at := range len(image) {
			for c := range 256 {
				if byte(c) != image[at] {
					wantNoPlc(t, "with a changed byte", replaced(image, at, byteOf(c)), codeOfChange(at, image))
				}
			}
			code := impl.ErrSize
			if at < 10 {
				code = impl.ErrEnd
			}
			wantNoPlc(t, "cut short", image[:at], code)
			fewer := image[:at] + image[at+1:]
			wantNoPlc(t, "without a byte", fewer, codeOfRest(fewer))
			for _, c := range []string{"\x00", "\x01", "P", "\xff"} {
				more := image[:at] + c + image[at:]
				wantNoPlc(t, "with one more byte", more, codeOfRest(more))
				wantNoPlc(t, "with one more byte at its end", image+c, impl.ErrSize)
			}
		}
	}
}

// Two loads of one image have nothing in common.
func TestLoadPlcTwice(t *testing.T) {
	image, _ := impl.ImageText(busyProgram())
	first, _ := impl.LoadPlc(image)
	first.Data.Wires[0], first.Program.Safe[3], first.Sources[2].Last, first.Program.Routines[0].Code[0].A = true, true, 77, 9
	second, code := impl.LoadPlc(image)
	if code != 0 || !equalPlcs(second, newPlc(busyProgram())) {
		t.Error("LoadPlc", brief(second), code)
	}
}
