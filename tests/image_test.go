package tests

import (
	"fmt"
	"math/rand"
	"slices"
	"strings"
	"testing"

	"loop.example/g00684/impl"
)

// The parts of a payload, put together by hand. Numbers that do not fit keep their lowest bytes.

func byteOf(n int) string {
	return string([]byte{byte(n)})
}

func kindsPart(kinds ...int) string {
	s := byteOf(len(kinds))
	for _, kind := range kinds {
		s += byteOf(kind)
	}
	return s
}

// codePart has the length of the code before it.
func codePart(code string) string {
	return littleEndian(len(code), 2) + code
}

func routinesPartOf(codes ...string) string {
	s := byteOf(len(codes))
	for _, code := range codes {
		s += codePart(code)
	}
	return s
}

func taskPart(x impl.Task) string {
	return byteOf(x.Kind) + littleEndian(x.Period, 4) + littleEndian(x.Deadline, 4) + byteOf(x.Pin) + byteOf(x.Queue) + byteOf(x.Routine)
}

func tasksPart(tasks ...impl.Task) string {
	s := byteOf(len(tasks))
	for _, x := range tasks {
		s += taskPart(x)
	}
	return s
}

func safePart(safe []bool) string {
	n := 0
	for i, on := range safe {
		if on {
			n += 1 << i
		}
	}
	return byteOf(n)
}

func codeBytes(code []impl.Instr) string {
	s := ""
	for _, x := range code {
		s += bytesOf(x)
	}
	return s
}

// payloadOf is the reference: the payload of the image of a valid program.
func payloadOf(p impl.Program) string {
	var codes []string
	for _, routine := range p.Routines {
		codes = append(codes, codeBytes(routine.Code))
	}
	return kindsPart(p.Kinds...) + routinesPartOf(codes...) + tasksPart(p.Tasks...) + safePart(p.Safe)
}

// A splitter is the reference for the payload: it takes bytes off the front, and panics with the code of the first error.
type splitter struct{ rest string }

func (s *splitter) bytes(n int) string {
	if n < 0 || n > len(s.rest) {
		panic(impl.ErrEnd)
	}
	var front string
	front, s.rest = s.rest[:n], s.rest[n:]
	return front
}

// number adds up the bytes; the last one counts as a number from -128 to 127.
func (s *splitter) number(size int) int {
	n := 0
	for i, c := range []byte(s.bytes(size)) {
		digit := int(c)
		if i == size-1 && c >= 128 {
			digit -= 256
		}
		n += digit << (8 * i)
	}
	return n
}

func (s *splitter) count(most int) int {
	n := s.number(1)
	if n < 0 || n > most {
		panic(impl.ErrMany)
	}
	return n
}

func (s *splitter) program() impl.Program {
	var p impl.Program
	for range s.count(8) {
		p.Kinds = append(p.Kinds, s.number(1))
	}
	for range s.count(6) {
		code, bad := readInTurn(s.bytes(s.number(2)))
		if bad != 0 {
			panic(bad)
		}
		p.Routines = append(p.Routines, impl.Routine{Code: code})
	}
	for range s.count(5) {
		var x impl.Task
		for i, field := range taskFields(&x) {
			*field = s.number([]int{1, 4, 4, 1, 1, 1}[i])
		}
		p.Tasks = append(p.Tasks, x)
	}
	safe := s.number(1) + 256
	for range 8 {
		p.Safe = append(p.Safe, safe%2 == 1)
		safe /= 2
	}
	if s.rest != "" {
		panic(impl.ErrSize)
	}
	return p
}

// readByRule is the reference for ReadImage of a frame with this payload.
func readByRule(payload string) (p impl.Program, code int) {
	defer func() {
		if bad, ok := recover().(int); ok {
			p, code = impl.Program{}, bad
		}
	}()
	s := &splitter{payload}
	p = s.program()
	if _, code := checkByRule(p); code != 0 {
		return impl.Program{}, code
	}
	return p, 0
}

func wantImage(t *testing.T, image string, want impl.Program) {
	t.Helper()
	p, code := impl.ReadImage(image)
	if !equalPrograms(p, want) || code != 0 {
		t.Fatalf("ReadImage(%x) = %s, %d, want %s", short(image), brief(p), code, brief(want))
	}
	if s, code := impl.ImageText(p); s != image || code != 0 {
		t.Fatalf("ImageText(%s) = %x, %d, want %x", brief(p), short(s), code, short(image))
	}
}

func wantNoImage(t *testing.T, what, image string, want int) {
	t.Helper()
	if p, code := impl.ReadImage(image); !isZeroProgram(p) || code != want {
		t.Errorf("ReadImage %s (%x) = %s, %d, want code %d", what, short(image), brief(p), code, want)
	}
}

// wantNoPayload is about a payload in a frame that is right.
func wantNoPayload(t *testing.T, what, payload string, want int) {
	t.Helper()
	wantNoImage(t, what, goodFrame(payload), want)
	if _, code := readByRule(payload); code != want {
		t.Errorf("by rule the code %s is %d, want %d", what, code, want)
	}
}

// checkPayload compares with the reference; it returns the code.
func checkPayload(t *testing.T, payload string) int {
	t.Helper()
	want, code := readByRule(payload)
	if code == 0 {
		wantImage(t, goodFrame(payload), want)
	} else {
		wantNoImage(t, "by rule", goodFrame(payload), code)
	}
	return code
}

func checkImage(t *testing.T, p impl.Program) {
	t.Helper()
	wantProgram(t, p, 0, impl.OK)
	wantImage(t, goodFrame(payloadOf(p)), p)
}

// Every byte of an image, written out.
func TestImageByHand(t *testing.T) {
	p := programOf([]int{4, 1}, routinesOf("push -2; store 15; cut", ""), event(300, 5000, 7, 4, 1), cyclic(5000, 128, 0))
	p.Safe[0], p.Safe[3], p.Safe[7] = true, true, true
	payload := "\x02\x04\x01" +
		"\x02" + "\x0b\x00" + "\x01\xfe\xff\xff\xff" + "\x04\x0f\x00\x00\x00" + "\x19" + "\x00\x00" +
		"\x02" + "\x02\x2c\x01\x00\x00\x88\x13\x00\x00\x07\x04\x01" + "\x01\x88\x13\x00\x00\x80\x00\x00\x00\x00\x01\x00" +
		"\x89"
	image := "PLC1" + "\x2d\x00\x00\x00" + payload
	image += littleEndian(sumByPowers(image), 2)
	if s, code := impl.ImageText(p); s != image || code != 0 {
		t.Errorf("ImageText = %x, %d, want %x", s, code, image)
	}
	wantImage(t, image, p)
	if payloadOf(p) != payload {
		t.Errorf("by rule the payload is %x", payloadOf(p))
	}
}

func TestImages(t *testing.T) {
	for _, p := range append(otherPrograms(), plainProgram(), fullProgram(), demoByHand(), programOf(nil, make([]impl.Routine, 1), cyclic(1, 1, 0))) {
		checkImage(t, p)
	}
	r := rand.New(rand.NewSource(93))
	for range 3000 {
		checkImage(t, mixedProgram(r))
	}
}

// Every field of every task at both ends of its range, and every period and deadline.
func TestImagesOfTasks(t *testing.T) {
	for _, row := range taskRows() {
		row.eachTask(func(x impl.Task, ok bool) {
			if ok {
				checkImage(t, programOf(nil, make([]impl.Routine, 6), x))
				checkImage(t, programOf(nil, make([]impl.Routine, 6), cyclic(9, 8, 1), x, event(7, 6, 5, 4, 3)))
			}
		})
	}
	for n := 1; n <= 5000; n++ {
		wantImage(t, goodFrame(payloadOf(programOf(nil, make([]impl.Routine, 1), cyclic(5000, n, 0), event(n, 5001-n, 1, 2, 0)))),
			programOf(nil, make([]impl.Routine, 1), cyclic(5000, n, 0), event(n, 5001-n, 1, 2, 0)))
	}
}

func TestImagesOfSafe(t *testing.T) {
	for n := range 256 {
		p := plainProgram()
		for i := range 8 {
			p.Safe[i] = n>>i%2 == 1
		}
		checkImage(t, p)
		image, _ := impl.ImageText(p)
		if c := int(image[len(image)-3]); c != n {
			t.Errorf("Safe %v is the byte %d, want %d", p.Safe, c, n)
		}
	}
}

// Code of every length, in which every operand needs all of its bytes.
func TestImagesOfCode(t *testing.T) {
	for n := 0; n <= 40; n += 2 {
		for _, a := range []int{smallestValue, -65537, -256, -129, -1, 127, 128, 255, 256, 65535, 65536, 1 << 24, largestValue} {
			code := slices.Repeat([]impl.Instr{{Op: 1, A: a}, {Op: 4, A: 15}}, n/2)
			checkImage(t, programOf([]int{3}, []impl.Routine{{}, {Code: code}, {Code: parse("cut")}}, cyclic(9, 9, 1)))
		}
	}
	for n := range 41 {
		checkImage(t, programOf(nil, []impl.Routine{{Code: slices.Repeat(parse("cut"), n)}, {Code: slices.Repeat(parse("call 0"), n)}}, cyclic(9, 9, 1)))
	}
}

// The codes of ReadFrame come before everything in the payload.
func TestReadImageOfFrames(t *testing.T) {
	longest := payloadOf(plainProgram()) + strings.Repeat("\x00", longestText)
	for _, payload := range []string{"", "\x09", "\xff\xff\xff", payloadOf(plainProgram()), payloadOf(plainProgram())[1:], payloadOf(badPrograms()[0].program)} {
		head := "PLC1" + littleEndian(len(payload), 4) + payload
		sum := littleEndian(impl.SumOf(head), 2)
		for n := range 10 {
			wantNoImage(t, "of a part of a frame", (head + sum)[:n], impl.ErrEnd)
		}
		wantNoImage(t, "with another mark", "PLC2"+head[4:]+sum, impl.ErrForm)
		wantNoImage(t, "with another length", "PLC1"+littleEndian(len(payload)+1, 4)+payload+sum, impl.ErrSize)
		wantNoImage(t, "with a negative length", "PLC1\xff\xff\xff\xff"+payload+sum, impl.ErrSize)
		wantNoImage(t, "with more bytes", head+sum+"x", impl.ErrSize)
		wantNoImage(t, "with another sum", head+littleEndian(impl.SumOf(head)+1, 2), impl.ErrSum)
		wantNoImage(t, "beyond MaxText", (head + sum + longest)[:longestText+1], impl.ErrLong)
		wantNoImage(t, "of MaxText bytes", (head + sum + longest)[:longestText], impl.ErrSize)
	}
	wantNoPayload(t, "of the longest frame", longest[:longestText-10], impl.ErrSize)
	wantNoImage(t, "beyond the longest frame", frameOf("PLC1", longestText-9, longest[:longestText-9], 0), impl.ErrLong)
	for _, n := range []int{longestText + 1, longestText + 2, 3 * longestText} {
		wantNoImage(t, "of a long text", strings.Repeat("a", n), impl.ErrLong)
	}
	wantNoImage(t, "of a text of MaxText bytes", strings.Repeat("a", longestText), impl.ErrForm)
}

func TestReadImageCutShort(t *testing.T) {
	r := rand.New(rand.NewSource(94))
	list := []impl.Program{plainProgram(), fullProgram(), demoByHand()}
	for range 60 {
		list = append(list, mixedProgram(r))
	}
	for _, p := range list {
		payload := payloadOf(p)
		for n := range len(payload) {
			wantNoPayload(t, "cut short", payload[:n], impl.ErrEnd)
		}
		for _, more := range []string{"\x00", "\x01", "\xff", "\x00\x00", payload, strings.Repeat("a", 1000)} {
			wantNoPayload(t, "with bytes that are left", payload+more, impl.ErrSize)
		}
	}
}

// placesOfCounts returns the places of the numbers of kinds, routines and tasks, and those of the lengths of code.
func placesOfCounts(p impl.Program) ([3]int, []int) {
	routines := 1 + len(p.Kinds)
	at := routines + 1
	var lengths []int
	for _, routine := range p.Routines {
		lengths = append(lengths, at)
		at += 2 + len(codeBytes(routine.Code))
	}
	return [3]int{0, routines, at}, lengths
}

func replaced(s string, at int, with string) string {
	return s[:at] + with + s[at+len(with):]
}

// A number that is negative or too large is found before anything behind it, whatever that is, and also if nothing is behind it.
func TestReadImageOfCounts(t *testing.T) {
	for _, p := range []impl.Program{plainProgram(), fullProgram(), demoByHand()} {
		payload := payloadOf(p)
		places, _ := placesOfCounts(p)
		for i, most := range []int{8, 6, 5} {
			at := places[i]
			for n := range 256 {
				changed := replaced(payload, at, byteOf(n))
				if n <= most {
					checkPayload(t, changed)
					continue
				}
				wantNoPayload(t, "with many parts", changed, impl.ErrMany)
				wantNoPayload(t, "with many parts at its end", changed[:at+1], impl.ErrMany)
				wantNoPayload(t, "with many parts and bytes that are left", changed+"x", impl.ErrMany)
				wantNoPayload(t, "with many parts of zeros", changed[:at+1]+strings.Repeat("\x00", 20000), impl.ErrMany)
			}
		}
	}
	// The largest numbers, with as many parts.
	full := fullProgram()
	wantNoPayload(t, "with 9 kinds", kindsPart(append(fullKinds(), 1)...)+payloadOf(full)[9:], impl.ErrMany)
	seven := routinesPartOf("", "", "", "", "", "", "")
	wantNoPayload(t, "with 7 routines", kindsPart()+seven+tasksPart(cyclic(1, 1, 0))+"\x00", impl.ErrMany)
	wantNoPayload(t, "with 6 tasks", kindsPart()+routinesPartOf("")+tasksPart(slices.Repeat([]impl.Task{cyclic(1, 1, 0)}, 6)...)+"\x00", impl.ErrMany)
	checkImage(t, programOf(fullKinds(), make([]impl.Routine, 6), slices.Repeat([]impl.Task{cyclic(1, 1, 0)}, 5)...))
}

// A negative length is ErrEnd, however many bytes there are behind it.
func TestReadImageOfNegativeLengths(t *testing.T) {
	lengths := []int{-1, -2, -3, -127, -128, -129, -255, -256, -257, -1000, -32767, -32768}
	for _, p := range []impl.Program{plainProgram(), fullProgram(), demoByHand()} {
		payload := payloadOf(p)
		_, places := placesOfCounts(p)
		for _, at := range places {
			for _, n := range lengths {
				changed := replaced(payload, at, littleEndian(n, 2))
				wantNoPayload(t, "with a negative length", changed, impl.ErrEnd)
				wantNoPayload(t, "with a negative length at its end", changed[:at+2], impl.ErrEnd)
				// Also if there are as many bytes as the length would mean without its sign.
				most := longestText - 10 - at - 2
				for _, c := range []string{"\x00", "\x11", "\xff"} {
					wantNoPayload(t, "with a negative length and many bytes", changed[:at+2]+strings.Repeat(c, min(n+65536, most)), impl.ErrEnd)
					wantNoPayload(t, "with a negative length and the most bytes", changed[:at+2]+strings.Repeat(c, most), impl.ErrEnd)
				}
			}
			wantNoPayload(t, "with half a length", payload[:at+1], impl.ErrEnd)
		}
	}
}

// A length that is too large is ErrEnd, also if the bytes that are there are no code.
func TestReadImageOfLongLengths(t *testing.T) {
	for _, code := range []string{"", "\x19", "\x00", "\x01\x00", "\x02\x02\x00\x00\x00", strings.Repeat("\x19", 41), strings.Repeat("\x19", 32766), strings.Repeat("\xff", 20000)} {
		for _, before := range []string{kindsPart() + "\x01", kindsPart(9, 9) + "\x06", kindsPart(1) + "\x03" + codePart("\x19") + codePart("")} {
			for _, n := range []int{len(code) + 1, len(code) + 2, 32767} {
				if n > len(code) && n <= 32767 {
					wantNoPayload(t, "with a large length", before+littleEndian(n, 2)+code, impl.ErrEnd)
				}
			}
		}
	}
	// Lengths up to the largest one count as they are.
	for _, n := range []int{41, 127, 128, 255, 256, 32766, 32767} {
		wantNoPayload(t, "with long code", kindsPart()+routinesPartOf(strings.Repeat("\x19", n))+tasksPart()+"\x00", impl.ErrMany)
		wantNoPayload(t, "with long code", kindsPart()+routinesPartOf(strings.Repeat("\x19", 40)+strings.Repeat("\x00", n-40))+tasksPart()+"\x00", impl.ErrOp)
	}
}

// The codes of ReadCode for each routine, alone and beside what comes later.
func TestReadImageOfCode(t *testing.T) {
	full := strings.Repeat("\x19", 40)
	for _, v := range []struct {
		code string
		want int
	}{
		{"\x00", impl.ErrOp}, {"\x1b", impl.ErrOp}, {"\xff", impl.ErrOp}, {"\x19\x80", impl.ErrOp}, {full + "\x00", impl.ErrOp},
		{"\x01", impl.ErrEnd}, {"\x01\x00\x00\x00", impl.ErrEnd}, {"\x19\x1a\x00", impl.ErrEnd}, {full + "\x01", impl.ErrEnd},
		{"\x02\x02\x00\x00\x00", impl.ErrRange}, {"\x19\x18\x00\x00\x00\x00", impl.ErrRange}, {"\x03\xff\xff\xff\xff\x00", impl.ErrRange}, {full + "\x1a\x06\x00\x00\x00", impl.ErrRange},
		{full + "\x19", impl.ErrMany}, {full + "\x01\x00\x00\x00\x00", impl.ErrMany}, {full + "\x19\x00", impl.ErrMany},
	} {
		for k := range 6 {
			codes := slices.Repeat([]string{full}, 6)
			codes[k] = v.code
			before := kindsPart(9) + "\x06"
			for _, code := range codes[:k] {
				before += codePart(code)
			}
			before += codePart(v.code)
			// Nothing behind it, later routines that are wrong themselves, tasks that are too many, and bytes that are left.
			for _, after := range []string{"", "\x00", "\xff\xff", codePart("\x00") + "\xff", codePart("\x01"), "\x01\x00\x19\x01\x00\x19\x01\x00\x19\x06" + strings.Repeat("\xff", 100)} {
				wantNoPayload(t, "with wrong code", before+after, v.want)
			}
			whole := kindsPart() + routinesPartOf(codes...) + tasksPart(cyclic(9, 9, 0)) + "\x00"
			wantNoPayload(t, "with wrong code", whole, v.want)
			wantNoPayload(t, "with wrong code and bytes that are left", whole+"x", v.want)
		}
	}
	// Code that is wrong in both of two routines.
	wantNoPayload(t, "with two wrong routines", kindsPart()+routinesPartOf("\x01", "\x00"), impl.ErrEnd)
	wantNoPayload(t, "with two wrong routines", kindsPart()+routinesPartOf("\x00", "\x01"), impl.ErrOp)
	wantNoPayload(t, "with two wrong routines", kindsPart()+routinesPartOf("\x02\x02\x00\x00\x00", full+"\x19"), impl.ErrRange)
	wantNoPayload(t, "with two wrong routines", kindsPart()+routinesPartOf(full+"\x19", "\x02\x02\x00\x00\x00"), impl.ErrMany)
}

// Each number in each place, negative ones and those beyond its limits among them.
func TestReadImageOfNumbers(t *testing.T) {
	kindsAt := func(n int) string { return kindsPart(n, 1) + routinesPartOf("") + tasksPart(cyclic(9, 9, 0)) + "\x00" }
	for n := range 256 {
		if n >= 1 && n <= 4 {
			wantImage(t, goodFrame(kindsAt(n)), programOf([]int{n, 1}, make([]impl.Routine, 1), cyclic(9, 9, 0)))
		} else {
			wantNoPayload(t, "with another kind", kindsAt(n), impl.ErrBad)
		}
	}
	for _, row := range taskRows() {
		for i, field := range taskFields(&row.task) {
			before := *field
			low, high := rangeOf([]int{1, 4, 4, 1, 1, 1}[i])
			for _, n := range append(edgeInts(), row.ranges[i][0]-1, row.ranges[i][1]+1, low, high) {
				if n < low || n > high {
					continue
				}
				*field = n
				want := programOf(nil, make([]impl.Routine, 6), cyclic(9, 9, 0), row.task)
				payload := payloadOf(want)
				if n < row.ranges[i][0] || n > row.ranges[i][1] {
					wantNoPayload(t, "with a number out of range", payload, impl.ErrKind)
				} else {
					wantImage(t, goodFrame(payload), want)
				}
			}
			*field = before
		}
	}
	for n := range 256 {
		want := programOf(nil, make([]impl.Routine, 3), cyclic(9, 9, n))
		switch {
		case n < 3:
			wantImage(t, goodFrame(payloadOf(want)), want)
		case n < 6:
			wantNoPayload(t, "with a routine that does not exist", payloadOf(want), impl.ErrCall)
		default:
			wantNoPayload(t, "with a number of a routine out of range", payloadOf(want), impl.ErrKind)
		}
	}
}

// Bytes that are left come behind all of the payload and before the codes of CheckProgram.
func TestReadImageOrder(t *testing.T) {
	ill := slices.Concat(refusedPrograms(), tasklessPrograms()[:1], []illProgram{
		{changedProgram(plainProgram(), func(p *impl.Program) { p.Kinds[0] = 5 }), 0, impl.ErrBad},
		{changedProgram(plainProgram(), func(p *impl.Program) { p.Kinds[2] = -1 }), 0, impl.ErrBad},
		{changedProgram(plainProgram(), func(p *impl.Program) { p.Tasks[1].Queue = 2 }), 1, impl.ErrKind},
		{changedProgram(plainProgram(), func(p *impl.Program) { p.Tasks[2].Routine = 4 }), 2, impl.ErrCall},
	})
	for _, v := range ill {
		payload := payloadOf(v.program)
		wantNoPayload(t, "of a program that is not valid", payload, v.code)
		wantNoPayload(t, "of a program that is not valid, with bytes that are left", payload+"\x00", impl.ErrSize)
		wantNoPayload(t, "of a program that is not valid, without its last byte", payload[:len(payload)-1], impl.ErrEnd)
		image := goodFrame(payload)
		wantNoImage(t, "with another sum", replaced(image, len(image)-1, byteOf(int(image[len(image)-1])^1)), impl.ErrSum)
	}
	bad := kindsPart(9)
	wantNoPayload(t, "with a wrong kind and a wrong operation", bad+routinesPartOf("\x00"), impl.ErrOp)
	wantNoPayload(t, "with a wrong kind and wrong code", bad+routinesPartOf("\x09")+tasksPart()+"\x00", impl.ErrBad)
	wantNoPayload(t, "with wrong code and no tasks", kindsPart()+routinesPartOf("\x09")+tasksPart()+"\x00", impl.ErrStack)
	wantNoPayload(t, "with no tasks", kindsPart()+routinesPartOf("\x19")+tasksPart()+"\x00", impl.ErrNone)
	wantNoPayload(t, "with nothing", "", impl.ErrEnd)
	wantNoPayload(t, "with nothing but numbers", "\x00\x00\x00\x00", impl.ErrNone)
	wantNoPayload(t, "with a number too little", "\x00\x00\x00", impl.ErrEnd)
	wantNoPayload(t, "with a number too much", "\x00\x00\x00\x00\x00", impl.ErrSize)
	wantNoPayload(t, "with a task without a routine", kindsPart()+routinesPartOf()+tasksPart(cyclic(9, 9, 0))+"\x00", impl.ErrCall)
	wantNoPayload(t, "with a wrong task and too few bytes", kindsPart()+routinesPartOf("")+tasksPart(impl.Task{}), impl.ErrEnd)
}

// All payloads of up to two bytes.
func TestReadImageOfShortPayloads(t *testing.T) {
	for a := range 256 {
		checkPayload(t, byteOf(a))
		for b := range 256 {
			checkPayload(t, byteOf(a)+byteOf(b))
		}
	}
}

// Payloads with every byte in every place, in right frames.
func TestReadImageByByte(t *testing.T) {
	p := programOf([]int{3}, routinesOf("push 3; store 1", "call 0; cut"), event(5, 6, 7, 4, 1), cyclic(9, 8, 0))
	payload := payloadOf(p)
	for at := 0; at <= len(payload); at++ {
		for c := range 256 {
			checkPayload(t, payload[:at]+byteOf(c)+payload[at:])
			if at < len(payload) {
				checkPayload(t, replaced(payload, at, byteOf(c)))
			}
		}
	}
}

// mutateText changes, drops or repeats a byte, or cuts the text off.
func mutateText(r *rand.Rand, s string) string {
	if s == "" {
		return byteOf(r.Intn(256))
	}
	at := r.Intn(len(s))
	switch r.Intn(5) {
	case 0:
		return s[:at] + s[at+1:]
	case 1:
		return s[:at] + byteOf(r.Intn(256)>>r.Intn(8)) + s[at:]
	case 2:
		return s[:len(s)-1-at%3]
	}
	return replaced(s, at, byteOf(r.Intn(256)>>r.Intn(8)))
}

func TestReadImageOfChangedPayloads(t *testing.T) {
	r := rand.New(rand.NewSource(95))
	seen := map[int]int{}
	for range 20000 {
		kinds := randomKinds(r)
		p := programOf(kinds, acceptedRoutines(r, kinds, 6), cyclic(9, 9, 0))
		if r.Intn(3) == 0 {
			p = mixedProgram(r)
		}
		payload := payloadOf(p)
		for range 1 + r.Intn(3) {
			payload = mutateText(r, payload)
		}
		seen[checkPayload(t, payload)]++
	}
	for _, code := range []int{0, impl.ErrBad, impl.ErrRange, impl.ErrMany, impl.ErrSize, impl.ErrKind, impl.ErrOp, impl.ErrStack, impl.ErrCall, impl.ErrEnd} {
		if seen[code] < 10 {
			t.Error("code", code, "was seen", seen[code], "times")
		}
	}
}

// P9 and P2: no image with a changed byte, with fewer bytes or with more bytes is read.
func TestChangedImages(t *testing.T) {
	r := rand.New(rand.NewSource(96))
	list := []impl.Program{plainProgram(), fullProgram(), demoByHand()}
	for range 40 {
		list = append(list, mixedProgram(r))
	}
	for _, p := range list {
		image, _ := impl.ImageText(p)
		wantImage(t, image, p)
		for at := range len(image) {
			for _, change := range []int{1, 2, 127, 128, 255, 1 + r.Intn(255)} {
				wantNoImage(t, "with a changed byte", replaced(image, at, byteOf(int(image[at])^change)), codeOfChange(at, image))
			}
			code := impl.ErrSize
			if at < 10 {
				code = impl.ErrEnd
			}
			wantNoImage(t, "cut short", image[:at], code)
			fewer, more := image[:at]+image[at+1:], image[:at]+"\x00"+image[at:]
			wantNoImage(t, fmt.Sprint("without byte ", at), fewer, codeOfRest(fewer))
			wantNoImage(t, fmt.Sprint("with one more byte at ", at), more, codeOfRest(more))
		}
		for _, more := range []string{"\x00", "\xff", "PLC1", image} {
			wantNoImage(t, "with more bytes", image+more, impl.ErrSize)
			wantNoImage(t, "behind bytes", more+image, codeOfRest(more))
		}
	}
}

// codeOfRest is that of an image with a byte more or less, which has no right length, nor perhaps its mark.
func codeOfRest(rest string) int {
	if strings.HasPrefix(rest, "PLC1") {
		return impl.ErrSize
	}
	return impl.ErrForm
}
