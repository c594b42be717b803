package impl

import (
	"strconv"
	"strings"
)

const (
	MaxText   = 20000
	MaxNumber = 1000000000
	MaxWords  = 600
	MaxParts  = 12
)

const hexDigits = "0123456789abcdef"

// The bytes that a line may contain: the printable ones of ASCII.
const (
	leastLineByte = 32
	mostLineByte  = 126
)

func Hex(text string) (string, bool) {
	if len(text) > MaxText {
		return "", false
	}
	digits := make([]byte, 0, 2*len(text))
	for at := range len(text) {
		digits = append(digits, hexDigits[text[at]>>4], hexDigits[text[at]&15])
	}
	return string(digits), true
}

func Unhex(text string) (string, bool) {
	// Hex accepts at most MaxText bytes, so it never returns a longer text than this.
	if len(text)%2 != 0 || len(text) > 2*MaxText {
		return "", false
	}
	plain := make([]byte, 0, len(text)/2)
	for at := 0; at < len(text); at += 2 {
		high := strings.IndexByte(hexDigits, text[at])
		low := strings.IndexByte(hexDigits, text[at+1])
		if high < 0 || low < 0 {
			return "", false
		}
		plain = append(plain, byte(high<<4|low))
	}
	return string(plain), true
}

func Decimal(n int) string { return strconv.Itoa(n) }

func ReadDecimal(text string) (int, bool) {
	n, err := strconv.Atoi(text)
	// Atoi also accepts a plus sign, leading zeros and "-0"; Decimal never writes these.
	if err != nil || n < 0 || n > MaxNumber || Decimal(n) != text {
		return 0, false
	}
	return n, true
}

func PartsOf(line string) ([]string, bool) {
	if len(line) > MaxWords {
		return nil, false
	}
	var parts []string
	start, at := 0, 0
scan:
	for ; at < len(line); at++ {
		switch b := line[at]; {
		case b < leastLineByte || b > mostLineByte:
			break scan
		case b == ' ':
			parts = withPart(parts, line[start:at])
			start = at + 1
		}
	}
	parts = withPart(parts, line[start:at])
	// The scan stops before the end only at an invalid byte.
	if at < len(line) || len(parts) > MaxParts {
		return nil, false
	}
	return parts, true
}

// withPart skips an empty run because neighbouring spaces, and those at the ends of a line, have no field between them.
// It copies the run because a result shares no memory with an argument.
func withPart(parts []string, run string) []string {
	if run == "" {
		return parts
	}
	return append(parts, strings.Clone(run))
}

func Brought(n int, least int, most int) int {
	// The lower limit is applied last, so that it wins if most is less than least.
	return max(least, min(n, most))
}
