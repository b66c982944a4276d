package impl

import "errors"

const (
	MaxText = 65536
	MaxList = 4096
	MaxName = 20

	OK         = 0
	ErrBad     = 1
	ErrLong    = 2
	ErrForm    = 3
	ErrRange   = 4
	ErrNone    = 5
	ErrMany    = 6
	ErrFull    = 7
	ErrSize    = 8
	ErrSum     = 9
	ErrKind    = 10
	ErrOp      = 11
	ErrType    = 12
	ErrStack   = 13
	ErrNest    = 14
	ErrCall    = 15
	ErrEnd     = 16
	ErrDepth   = 17
	ErrLoad    = 18
	ErrStopped = 19
	ErrRunning = 20
	ErrFault   = 21
	ErrLate    = 22
	ErrCut     = 23
)

// codeWords is indexed by code, so the order of its words is the numbering.
var codeWords = [24]string{
	"ok", "bad", "long", "form", "range", "none", "many", "full",
	"size", "sum", "kind", "op", "type", "stack", "nest", "call",
	"end", "depth", "load", "stopped", "running", "fault", "late", "cut",
}

// The layers return codes; inside them, causes travel as errors that wrap one of these.
var (
	errRange = errors.New("number out of range")
	errEnd   = errors.New("truncated")
)

// codeOfError keeps the mapping of causes to codes in one place; every cause has its case here.
func codeOfError(err error) int {
	switch {
	case err == nil:
		return OK
	case errors.Is(err, errRange):
		return ErrRange
	case errors.Is(err, errEnd):
		return ErrEnd
	}
	return ErrBad
}

func NameOK(t string) bool {
	if len(t) == 0 || len(t) > MaxName || isDigit(t[0]) {
		return false
	}
	for i := range len(t) {
		if !isLetter(t[i]) && !isDigit(t[i]) {
			return false
		}
	}
	return true
}

func isLetter(c byte) bool {
	return c >= 'a' && c <= 'z' || c >= 'A' && c <= 'Z' || c == '_'
}

func isDigit(c byte) bool {
	return c >= '0' && c <= '9'
}

func CodeWord(code int) string {
	if code < 0 || code >= len(codeWords) {
		return ""
	}
	return codeWords[code]
}

func CodeOf(word string) int {
	for code := range len(codeWords) {
		if codeWords[code] == word {
			return code
		}
	}
	return -1
}
