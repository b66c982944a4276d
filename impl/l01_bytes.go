package impl

import (
	"strconv"
	"strings"
)

const MaxWide = 2147483647

const (
	minWide = -MaxWide - 1 // the smallest value

	sumModulus = 32749

	frameMark = "PLC1"
	frameHead = 8 // the mark and the length
	frameTail = 2 // the sum
	frameRest = frameHead + frameTail

	hexDigits = "0123456789abcdef"
)

// numberError tells which number was refused; the wrapped error decides the code.
type numberError struct {
	number int
	err    error
}

func (e numberError) Error() string {
	return strconv.Itoa(e.number) + ": " + e.err.Error()
}

func (e numberError) Unwrap() error {
	return e.err
}

// width holds the integer types that have the sizes of an encoded number.
type width interface{ int8 | int16 | int32 }

// fits relies on the conversion to T dropping what T cannot hold.
func fits[T width](n int) bool {
	return int(T(n)) == n
}

func isValue(n int) bool {
	return fits[int32](n)
}

func PutNumber(n, size int) (string, int) {
	t, err := encode(n, size)
	return t, codeOfError(err)
}

func encode(n, size int) (string, error) {
	switch size {
	case 1:
		return encodeAs[int8](n, size)
	case 2:
		return encodeAs[int16](n, size)
	case 4:
		return encodeAs[int32](n, size)
	}
	return "", numberError{size, errRange}
}

func encodeAs[T width](n, size int) (string, error) {
	if !fits[T](n) {
		return "", numberError{n, errRange}
	}
	b := make([]byte, size)
	for i := range b {
		b[i] = byte(n >> (8 * i))
	}
	return string(b), nil
}

// appendNumber takes a number that fits.
func appendNumber(b []byte, n, size int) []byte {
	t, _ := PutNumber(n, size)
	return append(b, t...)
}

func TakeNumber(t string, at, size int) (int, int) {
	if len(t) > MaxText {
		return 0, ErrLong
	}
	n, err := decode(t, at, size)
	return n, codeOfError(err)
}

func decode(t string, at, size int) (int, error) {
	switch size {
	case 1:
		return decodeAs[int8](t, at, size)
	case 2:
		return decodeAs[int16](t, at, size)
	case 4:
		return decodeAs[int32](t, at, size)
	}
	return 0, numberError{size, errRange}
}

func decodeAs[T width](t string, at, size int) (int, error) {
	// at + size could overflow, len(t) - size cannot.
	if at < 0 || at > len(t)-size {
		return 0, numberError{at, errEnd}
	}
	bits := 0
	for i := range size {
		bits |= int(t[at+i]) << (8 * i)
	}
	return int(T(bits)), nil
}

func SumOf(t string) int {
	if len(t) > MaxText {
		return 0
	}
	sum := 1
	for i := range len(t) {
		sum = (31*sum + int(t[i])) % sumModulus
	}
	return sum
}

func FrameText(t string) (string, int) {
	if len(t) > MaxText {
		return "", ErrLong
	}
	if len(t) > MaxText-frameRest {
		return "", ErrSize
	}
	// Neither number can be refused: a length is a value, and a sum is less than 2^15.
	size, _ := PutNumber(len(t), 4)
	body := frameMark + size + t
	sum, _ := PutNumber(SumOf(body), 2)
	return body + sum, OK
}

func ReadFrame(t string) (string, int) {
	if len(t) > MaxText {
		return "", ErrLong
	}
	if len(t) < frameRest {
		return "", ErrEnd
	}
	if !strings.HasPrefix(t, frameMark) {
		return "", ErrForm
	}
	if size, _ := TakeNumber(t, len(frameMark), 4); size != len(t)-frameRest {
		return "", ErrSize
	}
	end := len(t) - frameTail
	if sum, _ := TakeNumber(t, end, 2); sum != SumOf(t[:end]) {
		return "", ErrSum
	}
	// A clone, since results share no memory with arguments.
	return strings.Clone(t[frameHead:end]), OK
}

func Checked(op, a, b int) (int, bool, int) {
	if op < 0 || op > 3 || !isValue(a) || !isValue(b) {
		return 0, false, ErrRange
	}
	n, ok := calculate(op, a, b)
	if !ok || !isValue(n) {
		return 0, true, OK
	}
	return n, false, OK
}

// calculate is exact: no result of two values exceeds 64 bits.
func calculate(op, a, b int) (int, bool) {
	switch op {
	case 0:
		return a + b, true
	case 1:
		return a - b, true
	case 2:
		return a * b, true
	}
	if b == 0 {
		return 0, false
	}
	return a / b, true
}

func HexOf(t string) string {
	if len(t) > MaxText/2 {
		return ""
	}
	b := make([]byte, 0, 2*len(t))
	for i := range len(t) {
		b = append(b, hexDigits[t[i]>>4], hexDigits[t[i]&15])
	}
	return string(b)
}

func BytesOf(t string) (string, int) {
	if len(t) > MaxText {
		return "", ErrLong
	}
	if len(t)%2 != 0 {
		return "", ErrForm
	}
	b := make([]byte, len(t)/2)
	for i := range b {
		high := strings.IndexByte(hexDigits, t[2*i])
		low := strings.IndexByte(hexDigits, t[2*i+1])
		if high < 0 || low < 0 {
			return "", ErrForm
		}
		b[i] = byte(16*high + low)
	}
	return string(b), OK
}
