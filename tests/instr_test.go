package tests

import (
	"fmt"
	"math/rand"
	"regexp"
	"strconv"
	"strings"
	"testing"

	"loop.example/g00684/impl"
)

// textOf is the reference: the text of a valid instruction, made from the table.
func textOf(x impl.Instr) string {
	row := opTable()[x.Op-1]
	if !row.operand {
		return row.name
	}
	return fmt.Sprintf("%s %d", row.name, x.A)
}

// textsOf returns all instructions but push by their texts.
func textsOf() map[string]impl.Instr {
	list := map[string]impl.Instr{}
	for _, x := range validInstrs() {
		if x.Op != 1 {
			list[textOf(x)] = x
		}
	}
	return list
}

// An instrReader is the reference for ReadInstr: it looks texts up instead of taking them apart.
type instrReader struct {
	others map[string]impl.Instr
	push   *regexp.Regexp
}

func newInstrReader() instrReader {
	return instrReader{textsOf(), regexp.MustCompile(`^push (0|-?[1-9][0-9]*)\z`)}
}

func (r instrReader) read(s string) (impl.Instr, int) {
	if len(s) > longestText {
		return impl.Instr{}, impl.ErrLong
	}
	var words []string
	for _, w := range strings.Split(s, " ") {
		if w != "" {
			words = append(words, w)
		}
	}
	joined := strings.Join(words, " ")
	if x, ok := r.others[joined]; ok {
		return x, impl.OK
	}
	if m := r.push.FindStringSubmatch(joined); m != nil {
		if a, err := strconv.ParseInt(m[1], 10, 32); err == nil {
			return impl.Instr{Op: 1, A: int(a)}, impl.OK
		}
	}
	return impl.Instr{}, impl.ErrForm
}

func (r instrReader) check(t *testing.T, s string) {
	t.Helper()
	want, wantCode := r.read(s)
	if x, code := impl.ReadInstr(s); x != want || code != wantCode {
		t.Errorf("ReadInstr(%q) = %v, %d, want %v, %d", short(s), x, code, want, wantCode)
	}
}

func wantInstr(t *testing.T, s string, want impl.Instr) {
	t.Helper()
	if x, code := impl.ReadInstr(s); x != want || code != impl.OK {
		t.Errorf("ReadInstr(%q) = %v, %d, want %v", short(s), x, code, want)
	}
}

func wantInstrCode(t *testing.T, s string, want int) {
	t.Helper()
	if x, code := impl.ReadInstr(s); x != (impl.Instr{}) || code != want {
		t.Errorf("ReadInstr(%q) = %v, %d, want %d", short(s), x, code, want)
	}
}

// checkInstr reads the text of a valid instruction back, with spaces before, between and behind its words too.
func checkInstr(t *testing.T, x impl.Instr) {
	t.Helper()
	s, code := impl.InstrText(x)
	if s != textOf(x) || code != impl.OK {
		t.Errorf("InstrText(%v) = %q, %d, want %q", x, s, code, textOf(x))
		return
	}
	for _, gap := range []string{" ", "  ", "       "} {
		wide := strings.ReplaceAll(s, " ", gap)
		for _, v := range []string{wide, " " + wide, wide + " ", "   " + wide + "  ", gap + wide + gap} {
			wantInstr(t, v, x)
		}
	}
}

func TestInstrTexts(t *testing.T) {
	for _, x := range validInstrs() {
		checkInstr(t, x)
	}
	for _, row := range opTable() {
		checkInstr(t, impl.Instr{Op: row.constant, A: row.low})
		checkInstr(t, impl.Instr{Op: row.constant, A: row.high})
	}
}

func TestInstrTextsOfPush(t *testing.T) {
	for a := -2000; a <= 2000; a++ {
		checkInstr(t, impl.Instr{Op: impl.OpPush, A: a})
	}
	r := rand.New(rand.NewSource(2))
	for range 5000 {
		checkInstr(t, impl.Instr{Op: impl.OpPush, A: int(int32(r.Uint32()))})
	}
	for n := 1; n <= 1000000000; n *= 10 {
		for _, a := range []int{n - 1, n, 1 - n, -n} {
			checkInstr(t, impl.Instr{Op: impl.OpPush, A: a})
		}
	}
}

func TestInstrTextOfInvalid(t *testing.T) {
	for _, x := range invalidInstrs() {
		if s, code := impl.InstrText(x); s != "" || code != impl.ErrBad {
			t.Errorf("InstrText(%v) = %q, %d, want ErrBad", x, s, code)
		}
	}
}

// An operation without an operand has no second word, not even 0.
func TestReadInstrWithoutOperand(t *testing.T) {
	for _, row := range opTable() {
		if row.operand {
			wantInstrCode(t, row.name, impl.ErrForm)
			wantInstrCode(t, "  "+row.name+" ", impl.ErrForm)
			continue
		}
		wantInstr(t, row.name, impl.Instr{Op: row.number})
		for _, a := range []string{"0", "1", "-1", "00", "-0", "x", row.name, "2147483648"} {
			wantInstrCode(t, row.name+" "+a, impl.ErrForm)
			wantInstrCode(t, a+" "+row.name, impl.ErrForm)
		}
	}
}

func TestReadInstrWithOtherOperands(t *testing.T) {
	others := []string{"-", "+", "+0", "+1", "-0", "00", "01", "-01", "1.0", "1e0", "0x1", "0b1", "0o1", "1_0", "1-", "--1", "1x", "x1", "x", "1\n", "\x001", "1\x00", "٣", "one", "1 1", "0 0", "1 x", "- 1", "-1-",
		"2147483648", "-2147483649", "4294967296", "4294967297", "-4294967295", "999999999999999999", "1000000000000000000", "9223372036854775807", "9223372036854775808", "-9223372036854775808", "-9223372036854775809", "18446744073709551616", "18446744073709551617", "00000000000000000001", strings.Repeat("1", 1000), strings.Repeat("0", 60000), strings.Repeat("0", 60000) + "1"}
	for _, row := range opTable() {
		for _, a := range others {
			wantInstrCode(t, row.name+" "+a, impl.ErrForm)
		}
		for _, a := range []int{row.low - 1, row.high + 1, row.low - 2, row.high + 2} {
			wantInstrCode(t, fmt.Sprintf("%s %d", row.name, a), impl.ErrForm)
		}
	}
}

// Every operand of a range of integers is tried beside every operation.
func TestReadInstrByOperand(t *testing.T) {
	r := newInstrReader()
	for _, row := range opTable() {
		list := edgeInts()
		for a := -300; a <= 300; a++ {
			list = append(list, a)
		}
		for _, a := range list {
			r.check(t, row.name+" "+strconv.Itoa(a))
			r.check(t, row.name+" 0"+strconv.Itoa(a))
			r.check(t, row.name+strconv.Itoa(a))
			r.check(t, strconv.Itoa(a))
		}
	}
}

func TestReadInstrOfOtherWords(t *testing.T) {
	for _, s := range []string{"", " ", "    ", "go", "jump 1", "0", "1", "-1", "1 1", "Push 1", "PUSH 1", "ADD", "Add", "adds", "ad", "a", "add add", "addsub", "add sub", "push push", "push1", "push-1", "pus h 1", "a dd", "push 1 2", "push 1 push", "1 push", "load 16", "flag 2", "repeat 0", "#", "# push 1", "push 1 #", "push,1", "push:1", "(add)", strings.Repeat(" ", longestText), strings.Repeat("a", longestText), strings.Repeat("add ", longestText/4), strings.Repeat("a ", longestText/2)} {
		wantInstrCode(t, s, impl.ErrForm)
	}
	for _, op := range otherOps() {
		wantInstrCode(t, strconv.Itoa(op), impl.ErrForm)
	}
}

// Only the byte 32 separates words; what other functions take for a space is part of a word.
func TestReadInstrOfOtherSpaces(t *testing.T) {
	for _, space := range []string{"\t", "\n", "\r", "\v", "\f", "\x00", "\x1f", "\x21", "\x85", "\xa0", "\u0085", "\u00a0", "\u1680", "\u2003", "\u2028", "\u3000", "\ufeff"} {
		for _, s := range []string{"push" + space + "1", space + "push 1", "push 1" + space, "push " + space + "1", "push" + space + " 1", "push 1 " + space, space + " push 1", space + "add", "add" + space, " " + space + " add", "add " + space, space} {
			wantInstrCode(t, s, impl.ErrForm)
		}
	}
}

// Every byte is put into every position of some texts, in place of the byte there and before it, and every byte is left out.
func TestReadInstrOfChangedTexts(t *testing.T) {
	r := newInstrReader()
	for _, s := range []string{"push 0", "push -15", "push 2147483647", " push  7 ", "flag 1", "load 10", "store 15", "in 7", "out 0", "peek 3", "poke 1", "add", " sub ", "or", "not", "block 2", "value 7", "if", "end", "repeat 20", "repeat 1", "cut", "call 5"} {
		for at := 0; at <= len(s); at++ {
			for c := range 256 {
				b := string([]byte{byte(c)})
				r.check(t, s[:at]+b+s[at:])
				if at < len(s) {
					r.check(t, s[:at]+b+s[at+1:])
				}
			}
			if at < len(s) {
				r.check(t, s[:at]+s[at+1:])
			}
			r.check(t, s[:at])
			r.check(t, s[at:])
		}
	}
}

// Random sequences of the words that matter, with random spaces.
func TestReadInstrOfRandomWords(t *testing.T) {
	words := []string{"0", "1", "-1", "7", "8", "15", "16", "20", "21", "2147483647", "-2147483648", "2147483648", "00", "-0", "x"}
	for _, row := range opTable() {
		words = append(words, row.name)
	}
	r := newInstrReader()
	random := rand.New(rand.NewSource(3))
	for range 100000 {
		s := strings.Repeat(" ", random.Intn(3))
		for range random.Intn(4) {
			s += words[random.Intn(len(words))] + strings.Repeat(" ", random.Intn(3))
		}
		r.check(t, s)
	}
}

func TestReadInstrOfLongTexts(t *testing.T) {
	for _, x := range []impl.Instr{{Op: impl.OpPush, A: -5}, {Op: impl.OpAdd}, {Op: impl.OpCall, A: 5}} {
		s := textOf(x)
		spaces := strings.Repeat(" ", longestText-len(s))
		inside := strings.Replace(s, " ", spaces+" ", 1)
		wantInstr(t, spaces+s, x)
		wantInstr(t, s+spaces, x)
		wantInstr(t, inside+strings.Repeat(" ", longestText-len(inside)), x)
		wantInstrCode(t, spaces+s+" ", impl.ErrLong)
		wantInstrCode(t, " "+s+spaces, impl.ErrLong)
		wantInstrCode(t, inside+strings.Repeat(" ", longestText+1-len(inside)), impl.ErrLong)
	}
	for _, n := range []int{longestText + 1, longestText + 2, 200000} {
		for _, c := range []string{" ", "a", "1", "\x00"} {
			wantInstrCode(t, strings.Repeat(c, n), impl.ErrLong)
		}
	}
	for _, c := range []string{" ", "a", "1", "\x00"} {
		wantInstrCode(t, strings.Repeat(c, longestText), impl.ErrForm)
	}
}
