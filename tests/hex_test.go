package tests

import (
	"encoding/hex"
	"strings"
	"testing"

	"loop.example/g00684/impl"
)

func checkHex(t *testing.T, s string) {
	t.Helper()
	got := impl.HexOf(s)
	if got != hex.EncodeToString([]byte(s)) {
		t.Errorf("HexOf(%q) = %q", short(s), short(got))
	}
	if back, code := impl.BytesOf(got); back != s || code != impl.OK {
		t.Errorf("BytesOf(%q) = %q, %d", short(got), short(back), code)
	}
}

func TestHexOfAllPairs(t *testing.T) {
	for a := range 256 {
		checkHex(t, string([]byte{byte(a)}))
		for b := range 256 {
			checkHex(t, string([]byte{byte(a), byte(b)}))
		}
	}
	if impl.HexOf("\x0f\xa0") != "0fa0" {
		t.Error("HexOf", impl.HexOf("\x0f\xa0"))
	}
}

func TestHexByLength(t *testing.T) {
	for n := range 300 {
		checkHex(t, mixedText(n))
	}
	for _, n := range []int{32766, 32767, 32768} {
		checkHex(t, mixedText(n))
	}
	for _, n := range []int{32769, 32770, 65535, 65536, 65537, 200000} {
		if got := impl.HexOf(mixedText(n)); got != "" {
			t.Errorf("HexOf of %d bytes has %d bytes", n, len(got))
		}
	}
}

// BytesOf accepts exactly the strings that HexOf returns: all other bytes are tried in every position.
func TestBytesOfOtherStrings(t *testing.T) {
	const digits = "0123456789abcdef"
	for at := range 6 {
		for c := range 256 {
			b := []byte("09afc3")
			b[at] = byte(c)
			got, code := impl.BytesOf(string(b))
			if strings.IndexByte(digits, byte(c)) >= 0 {
				if code != impl.OK || impl.HexOf(got) != string(b) {
					t.Errorf("BytesOf(%q) = %q, %d", b, got, code)
				}
			} else if got != "" || code != impl.ErrForm {
				t.Errorf("BytesOf(%q) = %q, %d", b, got, code)
			}
		}
	}
	for _, s := range []string{"0", "f", "G", "000", "0ff", "00 ", " 00", "0x00", "00\n", "-1", "+1", "0A", "A0", "FF", "g0", "0g", "é0", "00é", strings.Repeat("0", 65535), strings.Repeat("0", 65535) + "G", "g" + strings.Repeat("0", 65535)} {
		if got, code := impl.BytesOf(s); got != "" || code != impl.ErrForm {
			t.Errorf("BytesOf(%q) = %q, %d", short(s), short(got), code)
		}
	}
}

func TestBytesOfLongStrings(t *testing.T) {
	if got, code := impl.BytesOf(strings.Repeat("5a", 32768)); got != strings.Repeat("Z", 32768) || code != impl.OK {
		t.Errorf("BytesOf of MaxText bytes = %q, %d", short(got), code)
	}
	for _, n := range []int{65537, 65538, 65540, 200000} {
		for _, c := range []string{"0", "G"} {
			if got, code := impl.BytesOf(strings.Repeat(c, n)); got != "" || code != impl.ErrLong {
				t.Errorf("BytesOf of %d bytes = %q, %d", n, short(got), code)
			}
		}
	}
}
