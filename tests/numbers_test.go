package tests

import (
	"math"
	"strings"
	"testing"

	"loop.example/g00684/impl"
)

// littleEndian is the reference: the bytes of n by division.
func littleEndian(n, size int) string {
	b := make([]byte, size)
	if n < 0 {
		n += 1 << (8 * size)
	}
	for i := range b {
		b[i] = byte(n % 256)
		n /= 256
	}
	return string(b)
}

func rangeOf(size int) (int, int) {
	switch size {
	case 1:
		return -128, 127
	case 2:
		return -32768, 32767
	}
	return smallestValue, largestValue
}

func checkNumber(t *testing.T, n, size int) {
	t.Helper()
	low, high := rangeOf(size)
	s, code := impl.PutNumber(n, size)
	if n < low || n > high {
		if s != "" || code != impl.ErrRange {
			t.Errorf("PutNumber(%d, %d) = %x, %d, want ErrRange", n, size, s, code)
		}
		return
	}
	if s != littleEndian(n, size) || code != impl.OK {
		t.Fatalf("PutNumber(%d, %d) = %x, %d, want %x", n, size, s, code, littleEndian(n, size))
	}
	if m, code := impl.TakeNumber(s, 0, size); m != n || code != impl.OK {
		t.Fatalf("TakeNumber(%x, 0, %d) = %d, %d, want %d", s, size, m, code, n)
	}
}

func TestNumbersOfOneAndTwoBytes(t *testing.T) {
	for n := -70000; n <= 70000; n++ {
		checkNumber(t, n, 1)
		checkNumber(t, n, 2)
	}
}

func TestNumbersOfFourBytes(t *testing.T) {
	for n := smallestValue - 1000003; n <= largestValue+1000003; n += 99991 {
		checkNumber(t, n, 4)
	}
	for n := -1000; n <= 1000; n++ {
		checkNumber(t, n, 4)
		checkNumber(t, smallestValue+n, 4)
		checkNumber(t, largestValue+n, 4)
	}
}

// A number that wraps around into the range is still out of range.
func TestNumbersAtEdges(t *testing.T) {
	for _, n := range edgeInts() {
		for _, size := range []int{1, 2, 4} {
			checkNumber(t, n, size)
		}
	}
}

func otherSizes() []int {
	list := []int{math.MinInt, math.MinInt + 1, math.MinInt + 4, math.MaxInt, -4, -2, -1, 0, 3, 1<<32 + 1, 1<<32 + 2, 1<<32 + 4, 257, 258, 260}
	for n := 5; n <= 70; n++ {
		list = append(list, n)
	}
	return list
}

func TestOtherSizes(t *testing.T) {
	for _, size := range otherSizes() {
		for _, n := range []int{0, 1, -1, 127, math.MinInt, math.MaxInt} {
			if s, code := impl.PutNumber(n, size); s != "" || code != impl.ErrRange {
				t.Errorf("PutNumber(%d, %d) = %x, %d", n, size, s, code)
			}
		}
		for _, at := range []int{0, 1, -1, 100, math.MinInt, math.MaxInt} {
			for _, s := range []string{"", "a", "abcdefghijklmnopq", strings.Repeat("a", longestText)} {
				if n, code := impl.TakeNumber(s, at, size); n != 0 || code != impl.ErrRange {
					t.Errorf("TakeNumber(%q, %d, %d) = %d, %d", short(s), at, size, n, code)
				}
			}
		}
	}
}

func TestTakeNumberAtEveryOffset(t *testing.T) {
	around := []string{"", "\x00", "\xff", "\x80\x7f", "abc", "\xff\xff\xff\xff\xff"}
	for _, size := range []int{1, 2, 4} {
		low, high := rangeOf(size)
		for _, n := range []int{0, 1, -1, 2, -2, 100, -100, low, low + 1, high, high - 1, high / 3, low / 3} {
			s, code := impl.PutNumber(n, size)
			if code != impl.OK {
				t.Fatal("PutNumber", n, size, code)
			}
			for _, before := range around {
				for _, after := range around {
					if m, code := impl.TakeNumber(before+s+after, len(before), size); m != n || code != impl.OK {
						t.Errorf("TakeNumber of %d at %d = %d, %d", n, len(before), m, code)
					}
				}
			}
		}
	}
}

func TestTakeNumberOfAllBytes(t *testing.T) {
	s := allBytes() + allBytes()
	for at := range 512 {
		for _, size := range []int{1, 2, 4} {
			n, code := impl.TakeNumber(s, at, size)
			if at+size > len(s) {
				if n != 0 || code != impl.ErrEnd {
					t.Errorf("TakeNumber at %d of %d bytes = %d, %d", at, size, n, code)
				}
				continue
			}
			if code != impl.OK || littleEndian(n, size) != s[at:at+size] {
				t.Errorf("TakeNumber at %d of %d bytes = %d, %d", at, size, n, code)
			}
		}
	}
}

func TestTakeNumberBeyondTheText(t *testing.T) {
	for length := 0; length <= 9; length++ {
		s := strings.Repeat("z", length)
		for _, size := range []int{1, 2, 4} {
			offsets := append(edgeInts(), math.MaxInt-size, math.MaxInt-size+1)
			for _, at := range offsets {
				n, code := impl.TakeNumber(s, at, size)
				inside := at >= 0 && at <= 9 && at+size <= length
				if inside != (code == impl.OK) || !inside && (n != 0 || code != impl.ErrEnd) {
					t.Errorf("TakeNumber of %d bytes at %d, size %d = %d, %d", length, at, size, n, code)
				}
			}
		}
	}
}

func TestTakeNumberOfLongTexts(t *testing.T) {
	s := strings.Repeat("\x00", longestText-4) + "\x01\x02\x03\x84"
	for _, v := range []struct{ at, size, n, code int }{
		{longestText - 1, 1, -124, impl.OK},
		{longestText - 2, 2, -31741, impl.OK},
		{longestText - 4, 4, 0x04030201 - 0x80000000, impl.OK},
		{longestText, 1, 0, impl.ErrEnd},
		{longestText - 1, 2, 0, impl.ErrEnd},
		{longestText - 3, 4, 0, impl.ErrEnd},
	} {
		if n, code := impl.TakeNumber(s, v.at, v.size); n != v.n || code != v.code {
			t.Errorf("TakeNumber at %d, size %d = %d, %d", v.at, v.size, n, code)
		}
	}
	for _, extra := range []int{1, 2, 100000} {
		for _, at := range []int{0, -1, longestText, math.MinInt, math.MaxInt} {
			for _, size := range []int{1, 2, 4, 0, 3, -1, math.MinInt, math.MaxInt} {
				if n, code := impl.TakeNumber(strings.Repeat("\x01", longestText+extra), at, size); n != 0 || code != impl.ErrLong {
					t.Errorf("TakeNumber of a long text at %d, size %d = %d, %d", at, size, n, code)
				}
			}
		}
	}
}
