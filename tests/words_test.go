package tests

import (
	"math"
	"slices"
	"strings"
	"testing"

	"loop.example/g00969/impl"
)

func checkHex(t *testing.T, text string, want string, wantOk bool) {
	t.Helper()
	if got, ok := impl.Hex(text); got != want || ok != wantOk {
		t.Errorf("Hex of %d bytes %.40q: got %d bytes %.40q, %v; want %d bytes %.40q, %v", len(text), text, len(got), got, ok, len(want), want, wantOk)
	}
}

func checkUnhex(t *testing.T, text string, want string, wantOk bool) {
	t.Helper()
	if got, ok := impl.Unhex(text); got != want || ok != wantOk {
		t.Errorf("Unhex of %d bytes %.40q: got %d bytes %.40q, %v; want %d bytes %.40q, %v", len(text), text, len(got), got, ok, len(want), want, wantOk)
	}
}

func checkDecimal(t *testing.T, n int, want string) {
	t.Helper()
	if got := impl.Decimal(n); got != want {
		t.Errorf("Decimal(%d): got %q, want %q", n, got, want)
	}
}

func checkReadDecimal(t *testing.T, text string, want int, wantOk bool) {
	t.Helper()
	if got, ok := impl.ReadDecimal(text); got != want || ok != wantOk {
		t.Errorf("ReadDecimal(%.40q): got %d, %v; want %d, %v", text, got, ok, want, wantOk)
	}
}

func checkParts(t *testing.T, line string, want []string) {
	t.Helper()
	if got, ok := impl.PartsOf(line); !ok || !slices.Equal(got, want) {
		t.Errorf("PartsOf(%.60q): got %.60q, %v; want %.60q, true", line, got, ok, want)
	}
}

func checkNoParts(t *testing.T, line string) {
	t.Helper()
	if got, ok := impl.PartsOf(line); ok || got != nil {
		t.Errorf("PartsOf(%.60q): got %.60q, %v; want nil, false", line, got, ok)
	}
}

func TestWordsLimits(t *testing.T) {
	got := []int{impl.MaxText, impl.MaxNumber, impl.MaxWords, impl.MaxParts}
	if want := []int{20000, 1000000000, 600, 12}; !slices.Equal(got, want) {
		t.Errorf("limits: got %v, want %v", got, want)
	}
}

func TestHexKnownTexts(t *testing.T) {
	for _, c := range []struct{ text, digits string }{
		{"", ""},
		{"\x00", "00"},
		{"\x01", "01"},
		{"\x10", "10"},
		{"\x0f\xf0", "0ff0"},
		{"\xff", "ff"},
		{"az", "617a"},
		{"\u00e9", "c3a9"},
		{"\x12\x34\x56\x78\x9a\xbc\xde\xf0", "123456789abcdef0"},
		{"a\nb c", "610a622063"},
	} {
		checkHex(t, c.text, c.digits, true)
		checkUnhex(t, c.digits, c.text, true)
	}
}

func TestHexOfEveryByte(t *testing.T) {
	const digits = "0123456789abcdef"
	for b := range 256 {
		text := string([]byte{byte(b)})
		want := string([]byte{digits[b/16], digits[b%16]})
		checkHex(t, text, want, true)
		checkUnhex(t, want, text, true)
	}
}

func TestHexLongTexts(t *testing.T) {
	longest := strings.Repeat("\xa5", impl.MaxText)
	digits := strings.Repeat("a5", impl.MaxText)
	checkHex(t, longest, digits, true)
	checkUnhex(t, digits, longest, true)
	checkHex(t, longest+"\xa5", "", false)
	checkUnhex(t, digits+"a5", "", false)
	checkUnhex(t, digits+"a", "", false)
	checkHex(t, strings.Repeat("x", 3*impl.MaxText), "", false)
	checkUnhex(t, strings.Repeat("00", 3*impl.MaxText), "", false)
}

func TestUnhexOddLengths(t *testing.T) {
	for _, text := range []string{"0", "a", "617", "61a", "00000", strings.Repeat("0", 2*impl.MaxText-1)} {
		checkUnhex(t, text, "", false)
	}
}

// Each position of a pair is tried with every byte, so that upper case, signs, spaces and bytes above 127 are all among them.
func TestUnhexInvalidDigits(t *testing.T) {
	for b := range 256 {
		c := string([]byte{byte(b)})
		if strings.Contains("0123456789abcdef", c) {
			continue
		}
		for _, text := range []string{c + "0", "0" + c, c + c, "617a" + c + "0", "6" + c + "7a"} {
			checkUnhex(t, text, "", false)
		}
	}
	for _, text := range []string{"617A", "FF", "0x61", " 61 ", "-1", "61 7a", "61\n7"} {
		checkUnhex(t, text, "", false)
	}
}

// Every pair of bytes is either refused by Unhex or written by Hex.
func TestUnhexAcceptsOnlyWhatHexWrites(t *testing.T) {
	accepted := 0
	for high := range 256 {
		for low := range 256 {
			text := string([]byte{byte(high), byte(low)})
			plain, ok := impl.Unhex(text)
			if !ok {
				continue
			}
			accepted++
			checkHex(t, plain, text, true)
		}
	}
	if accepted != 256 {
		t.Errorf("Unhex accepted %d pairs, want 256", accepted)
	}
}

func TestDecimalKnownNumbers(t *testing.T) {
	for _, c := range []struct {
		n    int
		text string
	}{
		{0, "0"}, {1, "1"}, {9, "9"}, {10, "10"}, {42, "42"}, {100, "100"}, {1234567890, "1234567890"},
		{-1, "-1"}, {-5, "-5"}, {-10, "-10"}, {-1000, "-1000"},
		{1000000000, "1000000000"}, {1000000001, "1000000001"},
		{math.MaxInt, "9223372036854775807"},
		{math.MaxInt - 1, "9223372036854775806"},
		{math.MinInt, "-9223372036854775808"},
		{math.MinInt + 1, "-9223372036854775807"},
	} {
		checkDecimal(t, c.n, c.text)
	}
}

func TestReadDecimalWithinLimits(t *testing.T) {
	numbers := []int{impl.MaxNumber, impl.MaxNumber - 1, 123456789, 987654321}
	for n := range 2000 {
		numbers = append(numbers, n)
	}
	for power := 10; power <= impl.MaxNumber; power *= 10 {
		numbers = append(numbers, power-1, power)
	}
	for _, n := range numbers {
		checkReadDecimal(t, impl.Decimal(n), n, true)
	}
	checkReadDecimal(t, "0", 0, true)
	checkReadDecimal(t, "7", 7, true)
	checkReadDecimal(t, "305", 305, true)
	checkReadDecimal(t, "999999999", 999999999, true)
	checkReadDecimal(t, "1000000000", 1000000000, true)
}

func TestReadDecimalRejects(t *testing.T) {
	for _, text := range []string{
		"",
		"01", "00", "000", "007", "00000000000001", "0123456789",
		"-1", "-0", "+1", "+0", "-", "+", "--1", "-1000000000", "1-", "1+",
		"1000000001", "1000000010", "2000000000", "9999999999", "10000000000",
		"9223372036854775807", "9223372036854775808", "-9223372036854775808",
		"18446744073709551616", "18446744073709551617", "4294967296", "4294967297",
		strings.Repeat("9", 100), strings.Repeat("0", 100), "1" + strings.Repeat("0", 30000),
		" ", " 1", "1 ", "1 2", "1\n", "\t1", "1\x00", "\x00",
		"a", "1a", "a1", "0x1", "0b1", "0o7", "1_000", "1,000", "1.0", "1e3", ".", "Inf", "/", ":", "1/", "1:",
		"\u0661", "\uff11", "\xff",
	} {
		checkReadDecimal(t, text, 0, false)
	}
}

// No text of up to two bytes other than a number written by Decimal is accepted.
func TestReadDecimalAcceptsOnlyWhatDecimalWrites(t *testing.T) {
	accepted := 0
	tryText := func(text string) {
		n, ok := impl.ReadDecimal(text)
		if ok {
			accepted++
			checkDecimal(t, n, text)
		} else if n != 0 {
			t.Errorf("ReadDecimal(%q): got %d with false, want 0", text, n)
		}
	}
	for a := range 256 {
		tryText(string([]byte{byte(a)}))
		for b := range 256 {
			tryText(string([]byte{byte(a), byte(b)}))
		}
	}
	if accepted != 100 {
		t.Errorf("ReadDecimal accepted %d texts, want 100", accepted)
	}
}

func TestPartsOfOrdinaryLines(t *testing.T) {
	checkParts(t, "one", []string{"one"})
	checkParts(t, "x", []string{"x"})
	checkParts(t, "ask 1 create /a", []string{"ask", "1", "create", "/a"})
	checkParts(t, " step  1 ", []string{"step", "1"})
	checkParts(t, "   a", []string{"a"})
	checkParts(t, "a   ", []string{"a"})
	checkParts(t, "b a b", []string{"b", "a", "b"})
	checkParts(t, "a     b", []string{"a", "b"})
	checkParts(t, "! ~ \"#$%&'()*+,-./", []string{"!", "~", "\"#$%&'()*+,-./"})
}

func TestPartsOfLinesWithoutFields(t *testing.T) {
	checkParts(t, "", nil)
	checkParts(t, " ", nil)
	checkParts(t, "     ", nil)
	checkParts(t, strings.Repeat(" ", impl.MaxWords), nil)
	checkNoParts(t, strings.Repeat(" ", impl.MaxWords+1))
}

func TestPartsOfLongLines(t *testing.T) {
	longest := strings.Repeat("w", impl.MaxWords)
	checkParts(t, longest, []string{longest})
	checkNoParts(t, longest+"w")
	checkNoParts(t, longest+" ")
	checkNoParts(t, " "+longest)
	checkNoParts(t, strings.Repeat("w", 10*impl.MaxWords))
	half := strings.Repeat("h", impl.MaxWords/2-1)
	checkParts(t, half+"  "+half, []string{half, half})
	checkParts(t, strings.Repeat(" ", impl.MaxWords-1)+"w", []string{"w"})
	checkParts(t, "w"+strings.Repeat(" ", impl.MaxWords-1), []string{"w"})
}

// Each byte is tried at the start, inside and at the end of a line, and between spaces.
func TestPartsOfEveryByte(t *testing.T) {
	for b := range 256 {
		c := string([]byte{byte(b)})
		lines := []string{c, c + "a", "a" + c, "a" + c + "a", " " + c, c + " ", "a " + c + " a", "a b" + c}
		for _, line := range lines {
			if b < 32 || b > 126 {
				checkNoParts(t, line)
			} else {
				checkParts(t, line, strings.Fields(line))
			}
		}
	}
	checkNoParts(t, "caf\u00e9")
	checkNoParts(t, strings.Repeat("a", impl.MaxWords-1)+"\n")
	checkNoParts(t, "\n"+strings.Repeat("a", impl.MaxWords-1))
}

func TestPartsOfManyFields(t *testing.T) {
	for n := range 2 * impl.MaxParts {
		want := []string{}
		for i := range n {
			want = append(want, impl.Decimal(i))
		}
		line := strings.Join(want, " ")
		for _, x := range []string{line, " " + line, line + "  ", strings.ReplaceAll(line, " ", "   ")} {
			if n <= impl.MaxParts {
				checkParts(t, x, want)
			} else {
				checkNoParts(t, x)
			}
		}
	}
	checkNoParts(t, strings.Repeat("a ", impl.MaxWords/2))
}

func TestPartsOfReturnsNewMemory(t *testing.T) {
	first, _ := impl.PartsOf("a b c")
	second, _ := impl.PartsOf("a b c")
	for i := range first {
		first[i] = "changed"
	}
	if want := []string{"a", "b", "c"}; !slices.Equal(second, want) {
		t.Errorf("a second result changed with the first: %q", second)
	}
	checkParts(t, "a b c", []string{"a", "b", "c"})
}

func TestBroughtKnownValues(t *testing.T) {
	for _, c := range []struct{ n, least, most, want int }{
		{3, 1, 5, 3}, {1, 1, 5, 1}, {5, 1, 5, 5}, {0, 1, 5, 1}, {6, 1, 5, 5}, {9, 1, 5, 5}, {-9, 1, 5, 1},
		{-3, -5, -1, -3}, {-6, -5, -1, -5}, {0, -5, -1, -1},
		{7, 7, 7, 7}, {6, 7, 7, 7}, {8, 7, 7, 7},
		{3, 5, 1, 5}, {0, 5, 1, 5}, {9, 5, 1, 5}, {5, 5, 1, 5}, {1, 5, 1, 5}, {6, 5, 4, 5}, {0, -1, -5, -1},
		{math.MinInt, math.MinInt, math.MaxInt, math.MinInt},
		{math.MaxInt, math.MinInt, math.MaxInt, math.MaxInt},
		{math.MinInt, 0, 10, 0}, {math.MaxInt, 0, 10, 10},
		{0, math.MaxInt, math.MinInt, math.MaxInt},
		{math.MaxInt, 1, math.MinInt, 1},
	} {
		if got := impl.Brought(c.n, c.least, c.most); got != c.want {
			t.Errorf("Brought(%d, %d, %d): got %d, want %d", c.n, c.least, c.most, got, c.want)
		}
	}
}

func TestBroughtStaysWithinTheRange(t *testing.T) {
	for n := -6; n <= 6; n++ {
		for least := -4; least <= 4; least++ {
			for most := -4; most <= 4; most++ {
				got := impl.Brought(n, least, most)
				switch {
				case most < least:
					if got != least {
						t.Errorf("Brought(%d, %d, %d): got %d, want %d", n, least, most, got, least)
					}
				case got < least || got > most || n >= least && n <= most && got != n:
					t.Errorf("Brought(%d, %d, %d): got %d", n, least, most, got)
				}
			}
		}
	}
}
