package tests

import (
	"math"
	"strings"
	"testing"

	"loop.example/g00684/impl"
)

// codeTable is the table of chapter 1.
func codeTable() []struct {
	constant, number int
	word             string
} {
	return []struct {
		constant, number int
		word             string
	}{
		{impl.OK, 0, "ok"},
		{impl.ErrBad, 1, "bad"},
		{impl.ErrLong, 2, "long"},
		{impl.ErrForm, 3, "form"},
		{impl.ErrRange, 4, "range"},
		{impl.ErrNone, 5, "none"},
		{impl.ErrMany, 6, "many"},
		{impl.ErrFull, 7, "full"},
		{impl.ErrSize, 8, "size"},
		{impl.ErrSum, 9, "sum"},
		{impl.ErrKind, 10, "kind"},
		{impl.ErrOp, 11, "op"},
		{impl.ErrType, 12, "type"},
		{impl.ErrStack, 13, "stack"},
		{impl.ErrNest, 14, "nest"},
		{impl.ErrCall, 15, "call"},
		{impl.ErrEnd, 16, "end"},
		{impl.ErrDepth, 17, "depth"},
		{impl.ErrLoad, 18, "load"},
		{impl.ErrStopped, 19, "stopped"},
		{impl.ErrRunning, 20, "running"},
		{impl.ErrFault, 21, "fault"},
		{impl.ErrLate, 22, "late"},
		{impl.ErrCut, 23, "cut"},
	}
}

func TestLimits(t *testing.T) {
	if impl.MaxText != 65536 || impl.MaxList != 4096 || impl.MaxName != 20 || impl.MaxWide != 2147483647 {
		t.Error("limits", impl.MaxText, impl.MaxList, impl.MaxName, impl.MaxWide)
	}
}

func TestCodeTable(t *testing.T) {
	table := codeTable()
	if len(table) != 24 {
		t.Fatal("codes", len(table))
	}
	for i, row := range table {
		if row.number != i || row.constant != i {
			t.Errorf("constant of %s is %d, want %d", row.word, row.constant, i)
		}
		if got := impl.CodeWord(row.number); got != row.word {
			t.Errorf("CodeWord(%d) = %q, want %q", row.number, got, row.word)
		}
		if got := impl.CodeOf(row.word); got != row.number {
			t.Errorf("CodeOf(%q) = %d, want %d", row.word, got, row.number)
		}
	}
}

func TestCodeWordOfOtherNumbers(t *testing.T) {
	numbers := []int{math.MinInt, math.MaxInt, -256, -232, 256, 279, 1 << 32, 1<<32 + 1, -1 << 32, 1<<63 - 24}
	for n := -50; n < 0; n++ {
		numbers = append(numbers, n)
	}
	for n := 24; n < 1100; n++ {
		numbers = append(numbers, n)
	}
	for _, n := range numbers {
		if got := impl.CodeWord(n); got != "" {
			t.Errorf("CodeWord(%d) = %q", n, got)
		}
	}
}

func TestCodeOfOtherWords(t *testing.T) {
	words := []string{"", " ", "\n", "OK", "Ok", "oK", "Cut", "CUT", "x", "0", "23", "-1", "error", "none ", " none", "ok\x00", "\x00", "okbad", "ok bad", "cu\xff", "ErrBad"}
	for _, row := range codeTable() {
		words = append(words, row.word[:len(row.word)-1], row.word[1:], row.word+"x", "x"+row.word, row.word+" ", " "+row.word, row.word+"\n", strings.ToUpper(row.word), row.word+row.word)
	}
	for _, n := range []int{20, 21, 1000, longestText, longestText + 1, 1 << 20} {
		words = append(words, strings.Repeat("o", n), "ok"+strings.Repeat(" ", n), strings.Repeat("ok", n))
	}
	for _, w := range words {
		if got := impl.CodeOf(w); got != -1 {
			t.Errorf("CodeOf(%q) = %d", short(w), got)
		}
	}
}

func TestCodeOfChangedBytes(t *testing.T) {
	words := map[string]bool{}
	for _, row := range codeTable() {
		words[row.word] = true
	}
	for _, row := range codeTable() {
		for at := range len(row.word) {
			for c := range 256 {
				w := row.word[:at] + string([]byte{byte(c)}) + row.word[at+1:]
				if got := impl.CodeOf(w); !words[w] && got != -1 {
					t.Errorf("CodeOf(%q) = %d", w, got)
				}
			}
		}
	}
}

const (
	firstBytes = "abcdefghijklmnopqrstuvwxyzABCDEFGHIJKLMNOPQRSTUVWXYZ_"
	laterBytes = firstBytes + "0123456789"
)

func TestNameOKByByte(t *testing.T) {
	for _, c := range []byte(allBytes()) {
		if got, want := impl.NameOK(string([]byte{c})), strings.IndexByte(firstBytes, c) >= 0; got != want {
			t.Errorf("NameOK of the byte %q = %t", c, got)
		}
		for size := 2; size <= 20; size++ {
			for at := range size {
				b := []byte(strings.Repeat("k", size))
				b[at] = c
				allowed := laterBytes
				if at == 0 {
					allowed = firstBytes
				}
				if got, want := impl.NameOK(string(b)), strings.IndexByte(allowed, c) >= 0; got != want {
					t.Errorf("NameOK(%q) = %t", b, got)
				}
			}
		}
	}
}

func TestNameOKByLength(t *testing.T) {
	for n := 0; n <= 300; n++ {
		for _, c := range []string{"a", "Z", "_"} {
			if got, want := impl.NameOK(strings.Repeat(c, n)), n >= 1 && n <= 20; got != want {
				t.Errorf("NameOK of %d bytes = %t", n, got)
			}
		}
	}
	for _, n := range []int{longestText - 1, longestText, longestText + 1, longestText + 20} {
		if impl.NameOK(strings.Repeat("a", n)) {
			t.Errorf("NameOK of %d bytes", n)
		}
	}
	if !impl.NameOK("a"+strings.Repeat("9", 19)) || impl.NameOK("a"+strings.Repeat("9", 20)) || impl.NameOK("9"+strings.Repeat("a", 19)) {
		t.Error("NameOK with digits")
	}
}

// A letter or digit of Unicode is several bytes, none of which is allowed.
func TestNameOKOfRunes(t *testing.T) {
	for _, s := range []string{"é", "aé", "ñame", "名", "a٣", "\u212a", "a b", "a-b", "a.b", "a\n", "a\x00"} {
		if impl.NameOK(s) {
			t.Errorf("NameOK(%q)", s)
		}
	}
}
