package tests

import (
	"math/big"
	"strings"
	"testing"

	"loop.example/g00684/impl"
)

// sumByPowers is the reference: the whole sum as one number, reduced at the end.
func sumByPowers(s string) int {
	sum := big.NewInt(1)
	for _, c := range []byte(s) {
		sum.Mul(sum, big.NewInt(31))
		sum.Add(sum, big.NewInt(int64(c)))
	}
	return int(sum.Mod(sum, big.NewInt(32749)).Int64())
}

// frameOf puts a frame together by hand, with any mark, length and sum.
func frameOf(mark string, length int, payload string, sum int) string {
	return mark + littleEndian(length, 4) + payload + littleEndian(sum, 2)
}

func goodFrame(payload string) string {
	return frameOf("PLC1", len(payload), payload, impl.SumOf("PLC1"+littleEndian(len(payload), 4)+payload))
}

func wantFrameCode(t *testing.T, what, s string, want int) {
	t.Helper()
	if got, code := impl.ReadFrame(s); got != "" || code != want {
		t.Errorf("ReadFrame %s = %q, %d, want %d", what, short(got), code, want)
	}
}

func TestSumOf(t *testing.T) {
	texts := []string{"", "\x00", "\x00\x00", "\xff", "\xff\xff\xff", "a", "ab", "ba", "PLC1", allBytes(), "\x80", "\x7f"}
	for n := range 200 {
		texts = append(texts, mixedText(n), strings.Repeat("\xff", n))
	}
	for c := range 256 {
		texts = append(texts, string([]byte{byte(c)}), string([]byte{'x', byte(c), 'y'}))
	}
	for _, s := range texts {
		if got, want := impl.SumOf(s), sumByPowers(s); got != want {
			t.Errorf("SumOf(%q) = %d, want %d", short(s), got, want)
		}
	}
	if impl.SumOf("") != 1 || impl.SumOf("a") != 128 || impl.SumOf("ab") != 4066 {
		t.Error("SumOf", impl.SumOf(""), impl.SumOf("a"), impl.SumOf("ab"))
	}
}

func TestSumOfLongTexts(t *testing.T) {
	for _, n := range []int{32768, longestText - 1, longestText} {
		s := mixedText(n)
		if got, want := impl.SumOf(s), sumByPowers(s); got != want || got == 0 {
			t.Errorf("SumOf of %d bytes = %d, want %d", n, got, want)
		}
	}
	for _, n := range []int{longestText + 1, longestText + 2, 200000} {
		if got := impl.SumOf(mixedText(n)); got != 0 {
			t.Errorf("SumOf of %d bytes = %d", n, got)
		}
	}
}

func checkFrame(t *testing.T, payload string) {
	t.Helper()
	s, code := impl.FrameText(payload)
	if s != goodFrame(payload) || code != impl.OK {
		t.Errorf("FrameText(%q) = %x, %d", short(payload), short(s), code)
	}
	if got, code := impl.ReadFrame(s); got != payload || code != impl.OK {
		t.Errorf("ReadFrame of the frame of %q = %q, %d", short(payload), short(got), code)
	}
}

func TestFrames(t *testing.T) {
	if s, code := impl.FrameText(""); s != "PLC1\x00\x00\x00\x00\xf6\x7d" || code != impl.OK {
		t.Errorf("FrameText of nothing = %x, %d", s, code)
	}
	for n := range 600 {
		checkFrame(t, mixedText(n))
		checkFrame(t, strings.Repeat("\x00", n))
	}
	for c := range 256 {
		checkFrame(t, string([]byte{byte(c)}))
	}
	checkFrame(t, allBytes())
	checkFrame(t, goodFrame("PLC1"))
	for _, n := range []int{32766, 32767, 32768, longestText - 11, longestText - 10} {
		checkFrame(t, mixedText(n))
	}
}

func TestFrameTextOfLongPayloads(t *testing.T) {
	for _, v := range []struct{ n, code int }{
		{longestText - 9, impl.ErrSize},
		{longestText - 8, impl.ErrSize},
		{longestText - 1, impl.ErrSize},
		{longestText, impl.ErrSize},
		{longestText + 1, impl.ErrLong},
		{longestText + 2, impl.ErrLong},
		{3 * longestText, impl.ErrLong},
	} {
		if s, code := impl.FrameText(strings.Repeat("a", v.n)); s != "" || code != v.code {
			t.Errorf("FrameText of %d bytes = %q, %d, want %d", v.n, short(s), code, v.code)
		}
	}
}

func TestReadFrameOfLongTexts(t *testing.T) {
	longest := goodFrame(mixedText(longestText - 10))
	if got, code := impl.ReadFrame(longest); got != mixedText(longestText-10) || code != impl.OK {
		t.Errorf("ReadFrame of the longest frame = %q, %d", short(got), code)
	}
	wantFrameCode(t, "with one byte too many", longest+"x", impl.ErrLong)
	wantFrameCode(t, "of a long text", strings.Repeat("x", longestText+1), impl.ErrLong)
	wantFrameCode(t, "of a text of MaxText bytes", strings.Repeat("x", longestText), impl.ErrForm)
	// a frame that is right but for its length
	wantFrameCode(t, "longer than MaxText", frameOf("PLC1", longestText-9, mixedText(longestText-9), 0), impl.ErrLong)
}

func codeOfChange(at int, frame string) int {
	switch {
	case at < 4:
		return impl.ErrForm
	case at < 8:
		return impl.ErrSize
	}
	return impl.ErrSum
}

func TestFramesWithAChangedByte(t *testing.T) {
	for _, payload := range []string{"", "\x00", "a", "abc", "PLC1", mixedText(40), "\x00\x00\x00\x00\x00\x00"} {
		s := goodFrame(payload)
		for at := range len(s) {
			for c := range 256 {
				b := []byte(s)
				if b[at] == byte(c) {
					continue
				}
				b[at] = byte(c)
				wantFrameCode(t, "with a changed byte", string(b), codeOfChange(at, s))
			}
		}
	}
	long := goodFrame(mixedText(longestText - 10))
	for _, at := range []int{0, 3, 4, 7, 8, 9, 30000, 65533, 65534, 65535} {
		b := []byte(long)
		b[at] ^= 0x80
		wantFrameCode(t, "with a changed byte", string(b), codeOfChange(at, long))
	}
}

func TestFramesWithFewerBytes(t *testing.T) {
	for _, payload := range []string{"", "a", "abc", mixedText(40)} {
		s := goodFrame(payload)
		for n := range len(s) {
			front, back := impl.ErrEnd, impl.ErrEnd
			if n >= 10 {
				front, back = impl.ErrSize, impl.ErrForm
			}
			wantFrameCode(t, "cut off", s[:n], front)
			wantFrameCode(t, "without its first bytes", s[len(s)-n:], back)
		}
		for at := range len(s) {
			shorter := s[:at] + s[at+1:]
			if shorter == s {
				continue
			}
			if got, code := impl.ReadFrame(shorter); got != "" || code == impl.OK {
				t.Errorf("ReadFrame of %q without byte %d = %q, %d", s, at, got, code)
			}
		}
	}
}

func TestFramesWithMoreBytes(t *testing.T) {
	for _, payload := range []string{"", "a", "abc", mixedText(40)} {
		s := goodFrame(payload)
		for c := range 256 {
			wantFrameCode(t, "with one more byte", s+string([]byte{byte(c)}), impl.ErrSize)
			for at := range len(s) {
				longer := s[:at] + string([]byte{byte(c)}) + s[at:]
				if got, code := impl.ReadFrame(longer); got != "" || code == impl.OK {
					t.Errorf("ReadFrame of %q with a byte at %d = %q, %d", s, at, got, code)
				}
			}
		}
		wantFrameCode(t, "twice", s+s, impl.ErrSize)
		wantFrameCode(t, "behind a byte", "x"+s, impl.ErrForm)
	}
}

// Every frame here has several errors; the first one in the order of chapter 2 counts.
func TestReadFrameOrder(t *testing.T) {
	wantFrameCode(t, "of nothing", "", impl.ErrEnd)
	wantFrameCode(t, "of 9 bytes without the mark", "XLC1\x00\x00\x00\x00\x00", impl.ErrEnd)
	wantFrameCode(t, "of 9 bytes", "PLC1\x00\x00\x00\x00\x00", impl.ErrEnd)
	wantFrameCode(t, "of 10 bytes without the mark", "XLC1\x05\x00\x00\x00\x00\x00", impl.ErrForm)
	wantFrameCode(t, "with all wrong", frameOf("PLC2", 7, "abc", 1), impl.ErrForm)
	wantFrameCode(t, "with a small mark", frameOf("plc1", 3, "abc", 1), impl.ErrForm)
	wantFrameCode(t, "with a wrong length and sum", frameOf("PLC1", 7, "abc", 1), impl.ErrSize)
	wantFrameCode(t, "with a wrong sum", frameOf("PLC1", 3, "abc", 1), impl.ErrSum)
}

// The sums are right, so that only the length can reject these frames.
func TestReadFrameLengths(t *testing.T) {
	for _, length := range []int{0, 1, 2, 4, 5, 10, 13, 256 + 3, 65536 + 3, 1<<24 + 3, -1, -3, -253, smallestValue, smallestValue + 3, largestValue} {
		head := "PLC1" + littleEndian(length, 4) + "abc"
		wantFrameCode(t, "with a wrong length", head+littleEndian(impl.SumOf(head), 2), impl.ErrSize)
	}
	if got, code := impl.ReadFrame(goodFrame("abc")); got != "abc" || code != impl.OK {
		t.Error("ReadFrame", got, code)
	}
}

// A sum is not compared modulo anything, and it covers the mark and the length.
func TestReadFrameSums(t *testing.T) {
	for _, payload := range []string{"", "abc", mixedText(100)} {
		head := "PLC1" + littleEndian(len(payload), 4) + payload
		right := impl.SumOf(head)
		others := []int{right + 32749, right - 32749, right + 32768, impl.SumOf(payload), impl.SumOf(head[4:]), 0, 1, -1, -right, right + 1, right - 1}
		for _, sum := range others {
			if sum != right && sum >= -32768 && sum <= 65535 {
				wantFrameCode(t, "with another sum", frameOf("PLC1", len(payload), payload, sum), impl.ErrSum)
			}
		}
	}
}
