package tests

import (
	"math/rand"
	"slices"
	"strings"
	"testing"

	"loop.example/g00684/impl"
)

// bytesOf is the reference: the encoding of a valid instruction, made from the table.
func bytesOf(x impl.Instr) string {
	op := string([]byte{byte(x.Op)})
	if !opTable()[x.Op-1].operand {
		return op
	}
	return op + littleEndian(x.A, 4)
}

// readInTurn is the reference for ReadCode; it decides on one instruction after the other, from the table.
func readInTurn(s string) ([]impl.Instr, int) {
	if len(s) > longestText {
		return nil, impl.ErrLong
	}
	table := opTable()
	var list []impl.Instr
	for len(s) > 0 {
		op := int(s[0])
		s = s[1:]
		if op < 1 || op > 26 {
			return nil, impl.ErrOp
		}
		row := table[op-1]
		a := 0
		if row.operand {
			if len(s) < 4 {
				return nil, impl.ErrEnd
			}
			a = int(int32(uint32(s[0]) + uint32(s[1])*256 + uint32(s[2])*65536 + uint32(s[3])*16777216))
			s = s[4:]
		}
		if a < row.low || a > row.high {
			return nil, impl.ErrRange
		}
		if len(list) == 40 {
			return nil, impl.ErrMany
		}
		list = append(list, impl.Instr{Op: op, A: a})
	}
	return list, impl.OK
}

func wantCodeText(t *testing.T, list []impl.Instr, want string) {
	t.Helper()
	if s, code := impl.CodeText(list); s != want || code != impl.OK {
		t.Errorf("CodeText(%v) = %x, %d, want %x", list, s, code, want)
	}
}

func wantCodeTextCode(t *testing.T, what string, list []impl.Instr, want int) {
	t.Helper()
	if s, code := impl.CodeText(list); s != "" || code != want {
		t.Errorf("CodeText of %s = %x, %d, want %d", what, short(s), code, want)
	}
}

func wantRead(t *testing.T, s string, want []impl.Instr) {
	t.Helper()
	if list, code := impl.ReadCode(s); !slices.Equal(list, want) || code != impl.OK {
		t.Errorf("ReadCode(%x) = %v, %d, want %v", short(s), list, code, want)
	}
}

func wantReadCode(t *testing.T, what, s string, want int) {
	t.Helper()
	if list, code := impl.ReadCode(s); len(list) != 0 || code != want {
		t.Errorf("ReadCode %s (%x) = %v, %d, want %d", what, short(s), list, code, want)
	}
}

// checkReadCode compares with the reference; what is accepted must have exactly these bytes.
func checkReadCode(t *testing.T, s string) {
	t.Helper()
	want, wantCode := readInTurn(s)
	list, code := impl.ReadCode(s)
	if !slices.Equal(list, want) || code != wantCode {
		t.Fatalf("ReadCode(%x) = %v, %d, want %v, %d", short(s), list, code, want, wantCode)
	}
	if code == impl.OK {
		wantCodeText(t, list, s)
	}
}

func checkCode(t *testing.T, list []impl.Instr) {
	t.Helper()
	want := ""
	for _, x := range list {
		want += bytesOf(x)
	}
	wantCodeText(t, list, want)
	wantRead(t, want, list)
}

func randomCode(r *rand.Rand, n int) []impl.Instr {
	table := opTable()
	list := make([]impl.Instr, n)
	for i := range list {
		row := table[r.Intn(26)]
		list[i] = impl.Instr{Op: row.number, A: row.low + r.Intn(row.high-row.low+1)}
	}
	return list
}

func TestCodeOfOneInstr(t *testing.T) {
	for _, x := range validInstrs() {
		checkCode(t, []impl.Instr{x})
		checkCode(t, []impl.Instr{x, x, {Op: impl.OpCut}, x})
	}
	for _, row := range opTable() {
		checkCode(t, []impl.Instr{{Op: row.constant, A: row.low}, {Op: row.constant, A: row.high}})
	}
	wantCodeText(t, []impl.Instr{{Op: impl.OpPush, A: -2}, {Op: impl.OpNot}, {Op: impl.OpStore, A: 3}}, "\x01\xfe\xff\xff\xff\x11\x04\x03\x00\x00\x00")
}

func TestCodeWithoutInstrs(t *testing.T) {
	for _, list := range [][]impl.Instr{nil, {}, make([]impl.Instr, 0, 50)} {
		checkCode(t, list)
	}
}

func TestCodeByLength(t *testing.T) {
	for n := 0; n <= 40; n++ {
		for _, x := range []impl.Instr{{Op: impl.OpPush, A: smallestValue}, {Op: impl.OpAdd}, {Op: impl.OpCall, A: 5}} {
			checkCode(t, slices.Repeat([]impl.Instr{x}, n))
		}
	}
	r := rand.New(rand.NewSource(4))
	for range 3000 {
		checkCode(t, randomCode(r, r.Intn(41)))
	}
}

// Code that ends within an instruction is rejected wherever it is cut off; elsewhere it is shorter code.
func TestReadCodeCutOff(t *testing.T) {
	r := rand.New(rand.NewSource(5))
	for range 60 {
		list := randomCode(r, 1+r.Intn(40))
		s := ""
		for i, x := range list {
			part := bytesOf(x)
			wantRead(t, s, list[:i])
			for n := 1; n < len(part); n++ {
				wantReadCode(t, "cut off", s+part[:n], impl.ErrEnd)
			}
			s += part
		}
		wantRead(t, s, list)
	}
	for _, row := range opTable() {
		s := bytesOf(impl.Instr{Op: row.number, A: row.low})
		for n := 1; n < len(s); n++ {
			wantReadCode(t, "of a part of one instruction", s[:n], impl.ErrEnd)
		}
		if row.operand != (len(s) == 5) || !row.operand && len(s) != 1 {
			t.Error("reference", row.name, len(s))
		}
	}
}

// An operation without an operand is followed by the next one at once, so that four zero bytes are no A of it.
func TestReadCodeOfOperandsTooMany(t *testing.T) {
	for _, row := range opTable() {
		if !row.operand {
			op := string([]byte{byte(row.number)})
			wantReadCode(t, "with an A for "+row.name, op+"\x00\x00\x00\x00", impl.ErrOp)
			wantRead(t, op+"\x09\x0a\x19\x17", []impl.Instr{{Op: row.number}, {Op: 9}, {Op: 10}, {Op: 25}, {Op: 23}})
		}
	}
}

func TestReadCodeOfOtherOps(t *testing.T) {
	for c := range 256 {
		if c >= 1 && c <= 26 {
			continue
		}
		b := string([]byte{byte(c)})
		for _, before := range []string{"", "\x09", "\x01\x00\x00\x00\x00", strings.Repeat("\x11", 39), strings.Repeat("\x11", 40)} {
			for _, after := range []string{"", "\x09", "\x00\x00\x00\x00", "\x01"} {
				wantReadCode(t, "of another operation", before+b+after, impl.ErrOp)
			}
		}
	}
}

func TestReadCodeOfOtherOperands(t *testing.T) {
	for _, row := range opTable() {
		if !row.operand || row.number == 1 {
			continue
		}
		op := string([]byte{byte(row.number)})
		for _, a := range append(edgeInts(), row.low-1, row.high+1, row.low+256, row.low+65536, row.low+1<<24, row.low-1<<31) {
			if isValue(a) && (a < row.low || a > row.high) {
				wantReadCode(t, "with an A out of range", op+littleEndian(a, 4), impl.ErrRange)
				wantReadCode(t, "with an A out of range", "\x09"+op+littleEndian(a, 4)+"\x09", impl.ErrRange)
				wantReadCode(t, "with an A out of range that is cut off", op+littleEndian(a, 4)[:3], impl.ErrEnd)
			}
		}
	}
}

// Each text has several errors: the first one of the first instruction that has any counts.
func TestReadCodeOrder(t *testing.T) {
	full := strings.Repeat("\x11", 40)
	wide := strings.Repeat("\x01\xff\xff\xff\x7f", 40)
	for _, v := range []struct {
		s    string
		code int
	}{
		{"\x02\x02\x00\x00\x00\x00", impl.ErrRange},
		{"\x02\x02\x00\x00\x00\x01", impl.ErrRange},
		{"\x00\x02\x02\x00\x00\x00", impl.ErrOp},
		{"\x1b\x02\x02\x00", impl.ErrOp},
		{"\x02\x02\x00\x00", impl.ErrEnd},
		{"\x03\xff\xff\xff", impl.ErrEnd},
		{"\x18\x00\x00\x00\x00\xff", impl.ErrRange},
		{full + "\x11", impl.ErrMany},
		{full + "\x00", impl.ErrOp},
		{full + "\x1b", impl.ErrOp},
		{full + "\xff", impl.ErrOp},
		{full + "\x01", impl.ErrEnd},
		{full + "\x01\x00\x00\x00", impl.ErrEnd},
		{full + "\x1a\x06\x00\x00", impl.ErrEnd},
		{full + "\x1a\x06\x00\x00\x00", impl.ErrRange},
		{full + "\x02\xff\xff\xff\xff", impl.ErrRange},
		{full + "\x1a\x05\x00\x00\x00", impl.ErrMany},
		{full + "\x01\x00\x00\x00\x00", impl.ErrMany},
		{full + "\x11\x00", impl.ErrMany},
		{full + "\x11\x01", impl.ErrMany},
		{full + "\x11\x02\x02\x00\x00\x00", impl.ErrMany},
		{full[1:] + "\x00\x11\x11", impl.ErrOp},
		{full[1:] + "\x02\x02\x00\x00\x00\x11\x11", impl.ErrRange},
		{wide + "\x01\x00\x00\x00\x00", impl.ErrMany},
		{wide + "\x11", impl.ErrMany},
		{wide + "\x01\x00", impl.ErrEnd},
		{wide + "\x00", impl.ErrOp},
	} {
		wantReadCode(t, "with several errors", v.s, v.code)
		checkReadCode(t, v.s)
	}
}

func TestReadCodeOfLongTexts(t *testing.T) {
	for c := range 256 {
		b := string([]byte{byte(c)})
		checkReadCode(t, strings.Repeat(b, longestText))
		for _, n := range []int{longestText + 1, longestText + 2, 200000} {
			wantReadCode(t, "of a long text", strings.Repeat(b, n), impl.ErrLong)
		}
	}
	wantReadCode(t, "of MaxText bytes", strings.Repeat("\x11", longestText), impl.ErrMany)
	wantReadCode(t, "of MaxText bytes", strings.Repeat("\x00", longestText), impl.ErrOp)
}

// All texts of up to two bytes, and texts in which every byte is put into every position.
func TestReadCodeByByte(t *testing.T) {
	for a := range 256 {
		checkReadCode(t, string([]byte{byte(a)}))
		for b := range 256 {
			checkReadCode(t, string([]byte{byte(a), byte(b)}))
		}
	}
	for _, s := range []string{"\x01\xfe\xff\xff\xff\x11\x04\x03\x00\x00\x00", "\x18\x14\x00\x00\x00\x19\x17", strings.Repeat("\x11", 38) + "\x1a\x05\x00\x00\x00\x17"} {
		for at := 0; at <= len(s); at++ {
			for c := range 256 {
				b := string([]byte{byte(c)})
				checkReadCode(t, s[:at]+b+s[at:])
				if at < len(s) {
					checkReadCode(t, s[:at]+b+s[at+1:])
				}
			}
		}
	}
}

// Random bytes seldom get far, so most of them are operations, and most operands are small.
func TestReadCodeOfRandomBytes(t *testing.T) {
	table := opTable()
	r := rand.New(rand.NewSource(6))
	for range 30000 {
		var b []byte
		for range r.Intn(60) {
			op := 1 + r.Intn(26)
			b = append(b, byte(op))
			if table[op-1].operand {
				b = append(b, littleEndian(r.Intn(8), 4)...)
			}
		}
		for range r.Intn(3) {
			if len(b) > 0 {
				b[r.Intn(len(b))] = byte(r.Intn(256) >> r.Intn(8))
			}
		}
		checkReadCode(t, string(b[:len(b)-min(len(b), r.Intn(3))]))
	}
}

func TestCodeTextOfInvalidInstrs(t *testing.T) {
	for _, x := range invalidInstrs() {
		wantCodeTextCode(t, "an invalid instruction", []impl.Instr{x}, impl.ErrBad)
	}
	good := slices.Repeat([]impl.Instr{{Op: impl.OpPush, A: 1}}, 40)
	for n := 1; n <= 40; n++ {
		for at := range n {
			for _, x := range []impl.Instr{{}, {Op: 27}, {Op: impl.OpAdd, A: 1}, {Op: impl.OpFlag, A: 2}} {
				list := slices.Clone(good[:n])
				list[at] = x
				wantCodeTextCode(t, "a list with an invalid instruction", list, impl.ErrBad)
			}
		}
	}
}

func TestCodeTextOrder(t *testing.T) {
	for _, v := range []struct{ n, code int }{
		{41, impl.ErrMany},
		{42, impl.ErrMany},
		{longestList - 1, impl.ErrMany},
		{longestList, impl.ErrMany},
		{longestList + 1, impl.ErrLong},
		{longestList + 2, impl.ErrLong},
		{20000, impl.ErrLong},
	} {
		wantCodeTextCode(t, "many instructions", slices.Repeat([]impl.Instr{{Op: impl.OpNot}}, v.n), v.code)
		wantCodeTextCode(t, "many invalid instructions", make([]impl.Instr, v.n), v.code)
	}
	wantCodeTextCode(t, "invalid instructions", make([]impl.Instr, 40), impl.ErrBad)
}

// The result belongs to the caller: writing to it or behind it changes no later result.
func TestReadCodeReturnsNewMemory(t *testing.T) {
	s := "\x01\xfe\xff\xff\xff\x11\x04\x03\x00\x00\x00"
	first, _ := impl.ReadCode(s)
	second, _ := impl.ReadCode(s)
	want := slices.Clone(second)
	for i := range first[:cap(first)] {
		first[:cap(first)][i] = impl.Instr{Op: 26, A: 5}
	}
	if !slices.Equal(second, want) {
		t.Error("two results share memory:", second)
	}
	wantRead(t, s, want)
}
