package tests

import (
	"encoding/binary"
	"math"
	"math/rand"
	"slices"
	"strings"
	"testing"

	"loop.example/g00969/impl"
)

// knownNumbers are written out, so that the order of the bytes is checked without any other code.
var knownNumbers = []struct {
	n       int
	encoded string
}{
	{0, "\x00"}, {1, "\x01"}, {127, "\x7f"}, {128, "\x80"}, {255, "\xff"},
	{0, "\x00\x00"}, {1, "\x00\x01"}, {128, "\x00\x80"}, {255, "\x00\xff"}, {256, "\x01\x00"}, {258, "\x01\x02"}, {32768, "\x80\x00"}, {65535, "\xff\xff"},
	{0, "\x00\x00\x00"}, {65536, "\x01\x00\x00"}, {66051, "\x01\x02\x03"}, {16777215, "\xff\xff\xff"},
	{16777216, "\x01\x00\x00\x00"}, {16909060, "\x01\x02\x03\x04"}, {4294967295, "\xff\xff\xff\xff"},
	{4294967296, "\x01\x00\x00\x00\x00"}, {4328719365, "\x01\x02\x03\x04\x05"}, {1099511627775, "\xff\xff\xff\xff\xff"},
	{1099511627776, "\x01\x00\x00\x00\x00\x00"}, {1108152157446, "\x01\x02\x03\x04\x05\x06"}, {281474976710655, "\xff\xff\xff\xff\xff\xff"},
	{0, "\x00\x00\x00\x00\x00\x00\x00"}, {281474976710656, "\x01\x00\x00\x00\x00\x00\x00"},
	{283686952306183, "\x01\x02\x03\x04\x05\x06\x07"}, {36028797018963968, "\x80\x00\x00\x00\x00\x00\x00"}, {72057594037927935, "\xff\xff\xff\xff\xff\xff\xff"},
}

// mostOf has for each width the largest number that fits.
var mostOf = [8]int{0, 255, 65535, 16777215, 4294967295, 1099511627775, 281474976710655, 72057594037927935}

var wrongWidths = []int{0, 8, 9, 16, 64, 256, 257, -1, -2, -7, -8, -64, 1 << 32, 1<<32 + 1, 1 << 61, 1<<61 + 1, math.MaxInt, math.MaxInt - 1, math.MinInt, math.MinInt + 1}

// numbersOf has the numbers at which a width ends or a sign could be mistaken, and those one above and below.
func numbersOf(width int) []int {
	numbers := []int{0, 1, 2, 127, 128, 129, 254}
	for shift := 8; shift < 8*width; shift++ {
		numbers = append(numbers, 1<<shift-1, 1<<shift, 1<<shift+1)
	}
	numbers = append(numbers, mostOf[width]-1, mostOf[width])
	source := rand.New(rand.NewSource(int64(width)))
	for range 50 {
		numbers = append(numbers, source.Intn(mostOf[width]+1))
	}
	return numbers
}

// encodedNumber computes the bytes with the standard library.
func encodedNumber(n int, width int) string {
	whole := binary.BigEndian.AppendUint64(nil, uint64(n))
	return string(whole[8-width:])
}

func checkNumText(t *testing.T, n int, width int, want string) {
	t.Helper()
	if got := impl.NumText(n, width); got != want {
		t.Errorf("NumText(%d, %d): got %x, want %x", n, width, got, want)
	}
}

func checkNumAt(t *testing.T, s string, at int, width int, want int, wantOk bool) {
	t.Helper()
	if got, ok := impl.NumAt(s, at, width); got != want || ok != wantOk {
		t.Errorf("NumAt(%d bytes %.20x, %d, %d): got %d, %v; want %d, %v", len(s), s, at, width, got, ok, want, wantOk)
	}
}

func checkWordText(t *testing.T, s string, want string) {
	t.Helper()
	if got := impl.WordText(s); got != want {
		t.Errorf("WordText of %d bytes %.20x: got %x, want %x", len(s), s, got, want)
	}
}

// checkXorText tries both orders, and that a second exclusive or takes the first one back.
func checkXorText(t *testing.T, a string, b string, want string) {
	t.Helper()
	for _, c := range []struct{ one, other, want string }{{a, b, want}, {b, a, want}, {want, b, a}, {a, want, b}} {
		if got := impl.XorText(c.one, c.other); got != c.want {
			t.Errorf("XorText of %d bytes %.20x, %.20x: got %d bytes %.20x, want %.20x", len(c.one), c.one, c.other, len(got), got, c.want)
		}
	}
}

func checkNoXorText(t *testing.T, a string, b string) {
	t.Helper()
	if got, back := impl.XorText(a, b), impl.XorText(b, a); got != "" || back != "" {
		t.Errorf("XorText of %d and %d bytes: got %d and %d bytes, want none", len(a), len(b), len(got), len(back))
	}
}

func checkWordsOf(t *testing.T, s string, want []string) {
	t.Helper()
	if got := impl.WordsOf(s); !slices.Equal(got, want) {
		t.Errorf("WordsOf of %d bytes: got %d words %.4q, want %d words %.4q", len(s), len(got), got, len(want), want)
	}
}

func checkZeroText(t *testing.T, n int, length int) {
	t.Helper()
	if got := impl.ZeroText(n); got != strings.Repeat("\x00", length) {
		t.Errorf("ZeroText(%d): got %d bytes %.20x, want %d zero bytes", n, len(got), got, length)
	}
}

func TestBytesLimits(t *testing.T) {
	if impl.WordSize != 8 {
		t.Errorf("WordSize %d, want 8", impl.WordSize)
	}
}

func TestNumbersKnownBytes(t *testing.T) {
	for _, c := range knownNumbers {
		checkNumText(t, c.n, len(c.encoded), c.encoded)
		checkNumAt(t, c.encoded, 0, len(c.encoded), c.n, true)
	}
}

func TestNumberComesBackFromItsBytes(t *testing.T) {
	behinds := []string{"", "\x00", "\xff", "\x80behind", strings.Repeat("\xff", 9)}
	for width := 1; width <= 7; width++ {
		for _, n := range numbersOf(width) {
			encoded := encodedNumber(n, width)
			checkNumText(t, n, width, encoded)
			for _, ahead := range []int{0, 1, 2, 3, 7, 8, 9, 300} {
				for _, behind := range behinds {
					s := textOf(ahead) + impl.NumText(n, width) + behind
					checkNumAt(t, s, ahead, width, n, true)
					checkNumAt(t, strings.Repeat("\xff", ahead)+encoded+behind, ahead, width, n, true)
				}
			}
		}
	}
}

func TestNumberFarFromTheStart(t *testing.T) {
	for width := 1; width <= 7; width++ {
		for _, ahead := range []int{impl.MaxText, impl.MaxText + 1, 70000, 1 << 24} {
			n := mostOf[width] - 1
			checkNumAt(t, strings.Repeat("\x80", ahead)+impl.NumText(n, width)+"x", ahead, width, n, true)
		}
	}
}

func TestNumberOfEveryByteAtEveryPlace(t *testing.T) {
	for width := 1; width <= 7; width++ {
		for place := range width {
			for b := range 256 {
				encoded := strings.Repeat("\x00", place) + string([]byte{byte(b)}) + strings.Repeat("\x00", width-1-place)
				n := b << (8 * (width - 1 - place))
				checkNumText(t, n, width, encoded)
				checkNumAt(t, encoded, 0, width, n, true)
			}
		}
	}
}

func TestNumbersAtNeighbouringOffsets(t *testing.T) {
	text := textOf(40)
	for width := 1; width <= 7; width++ {
		for at := 0; at+width <= len(text); at++ {
			want := 0
			for _, b := range []byte(text[at : at+width]) {
				want = want*256 + int(b)
			}
			checkNumAt(t, text, at, width, want, true)
			checkNumText(t, want, width, text[at:at+width])
		}
	}
}

func TestNumTextOfNumbersThatDoNotFit(t *testing.T) {
	for width := 1; width <= 7; width++ {
		checkNumText(t, 0, width, strings.Repeat("\x00", width))
		checkNumText(t, mostOf[width], width, strings.Repeat("\xff", width))
		for shift := 8 * width; shift < 63; shift++ {
			checkNumText(t, 1<<shift, width, "")
			checkNumText(t, 1<<shift+1, width, "")
			checkNumText(t, 1<<shift|mostOf[width], width, "")
		}
		for _, n := range []int{mostOf[width] + 1, mostOf[width] + 2, 2*mostOf[width] + 1, 2*mostOf[width] + 2, math.MaxInt - 1, math.MaxInt} {
			checkNumText(t, n, width, "")
		}
	}
}

func TestNumTextOfNegativeNumbers(t *testing.T) {
	for width := 1; width <= 7; width++ {
		for _, n := range []int{-1, -2, -127, -128, -255, -256, -mostOf[width], -mostOf[width] - 1, -1 << 56, math.MinInt, math.MinInt + 1} {
			checkNumText(t, n, width, "")
		}
	}
}

func TestWidthsOutsideTheRange(t *testing.T) {
	for _, width := range wrongWidths {
		for _, n := range []int{0, 1, 255, 256, mostOf[7], mostOf[7] + 1, math.MaxInt, -1, math.MinInt} {
			checkNumText(t, n, width, "")
		}
		for _, s := range []string{"", "a", textOf(8), textOf(300)} {
			for _, at := range []int{0, 1, 7, 8, 292, len(s), len(s) + 1, -1, -8, math.MaxInt, math.MinInt} {
				checkNumAt(t, s, at, width, 0, false)
			}
		}
	}
}

// The bytes behind the last possible offset are not taken as zeros, and those before the first not from the end.
func TestNumAtTheEnds(t *testing.T) {
	for width := 1; width <= 7; width++ {
		for _, more := range []int{0, 1, 2, 7, 8, 100} {
			s := strings.Repeat("\xff", more+width)
			checkNumAt(t, s, 0, width, mostOf[width], true)
			checkNumAt(t, s, more, width, mostOf[width], true)
			for past := 1; past <= width+9; past++ {
				checkNumAt(t, s, more+past, width, 0, false)
			}
			for _, at := range []int{-1, -2, -width, -more - width, -256, -1 << 32, math.MinInt, math.MinInt + 1, math.MinInt + width} {
				checkNumAt(t, s, at, width, 0, false)
			}
			for _, at := range []int{1 << 31, 1 << 32, 1<<32 + 1, 1 << 62, math.MaxInt - width, math.MaxInt - width + 1, math.MaxInt - 1, math.MaxInt} {
				checkNumAt(t, s, at, width, 0, false)
			}
		}
	}
}

func TestNumAtOfTextsThatAreTooShort(t *testing.T) {
	for width := 1; width <= 7; width++ {
		for length := range width {
			for at := -width - 1; at <= width+1; at++ {
				checkNumAt(t, strings.Repeat("\x01", length), at, width, 0, false)
			}
			checkNumAt(t, strings.Repeat("\x01", length), math.MaxInt, width, 0, false)
		}
	}
}

func TestWordTextKnownTexts(t *testing.T) {
	for _, c := range []struct{ s, want string }{
		{"", "\x00\x00\x00\x00\x00\x00\x00\x00"},
		{"a", "a\x00\x00\x00\x00\x00\x00\x00"},
		{"\x00", "\x00\x00\x00\x00\x00\x00\x00\x00"},
		{"\x00a", "\x00a\x00\x00\x00\x00\x00\x00"},
		{"abcd", "abcd\x00\x00\x00\x00"},
		{"abcdefg", "abcdefg\x00"},
		{"abcdefgh", "abcdefgh"},
		{"\xff\xfe\x80\x00\x7f", "\xff\xfe\x80\x00\x7f\x00\x00\x00"},
		{"\xff\xff\xff\xff\xff\xff\xff\xff", "\xff\xff\xff\xff\xff\xff\xff\xff"},
		{"caf\u00e9", "caf\xc3\xa9\x00\x00\x00"},
	} {
		checkWordText(t, c.s, c.want)
	}
}

func TestWordTextOfEveryLength(t *testing.T) {
	for n := 0; n <= 8; n++ {
		checkWordText(t, textOf(n), textOf(n)+strings.Repeat("\x00", 8-n))
	}
	for n := 9; n <= 40; n++ {
		checkWordText(t, textOf(n), "")
	}
	for _, n := range []int{256, 264, impl.MaxText, impl.MaxText + 1} {
		checkWordText(t, textOf(n), "")
		checkWordText(t, strings.Repeat("\x00", n), "")
	}
}

func TestXorTextKnownTexts(t *testing.T) {
	for _, c := range []struct{ a, b, want string }{
		{"", "", ""},
		{"a", "b", "\x03"},
		{"\x00", "\x00", "\x00"},
		{"\xff", "\x00", "\xff"},
		{"\xff", "\x80", "\x7f"},
		{"\x80", "\x7f", "\xff"},
		{"\x0f\xf0\x55", "\xff\xff\xaa", "\xf0\x0f\xff"},
		{"abc", "ABC", "   "},
		{"\x01\x02\x03\x04\x05\x06\x07\x08\x09", "\x09\x08\x07\x06\x05\x04\x03\x02\x01", "\x08\x0a\x04\x02\x00\x02\x04\x0a\x08"},
	} {
		checkXorText(t, c.a, c.b, c.want)
	}
}

func TestXorTextOfEveryTwoBytes(t *testing.T) {
	for mask := range 256 {
		every := make([]byte, 256)
		for b := range every {
			every[b] = byte(b)
		}
		checkXorText(t, string(every), strings.Repeat(string([]byte{byte(mask)}), 256), eachByteMixed(string(every), byte(mask)))
	}
}

func TestXorTextOfManyLengths(t *testing.T) {
	for _, n := range []int{0, 1, 2, 7, 8, 9, 15, 16, 17, 64, 300, impl.MaxText, impl.MaxText + 1} {
		text, zeros := textOf(n), strings.Repeat("\x00", n)
		checkXorText(t, text, zeros, text)
		checkXorText(t, text, text, zeros)
		checkXorText(t, text, strings.Repeat("\xff", n), eachByteMixed(text, 255))
		checkXorText(t, text, strings.Repeat("\x80", n), eachByteMixed(text, 128))
	}
}

func TestXorTextOfStringsOfOtherLength(t *testing.T) {
	for _, n := range []int{0, 1, 2, 7, 8, 9, 16, 300} {
		text := textOf(n)
		checkNoXorText(t, text, text+"x")
		checkNoXorText(t, text, text+"\x00")
		checkNoXorText(t, text, "x"+text)
		checkNoXorText(t, text, text+textOf(256))
		if n > 0 {
			checkNoXorText(t, "", text)
			checkNoXorText(t, text[1:], text)
		}
	}
	checkNoXorText(t, "", textOf(impl.MaxText+1))
}

func TestWordsOfKnownTexts(t *testing.T) {
	const zeros = "\x00\x00\x00\x00\x00\x00\x00\x00"
	for _, c := range []struct {
		s    string
		want []string
	}{
		{"", nil},
		{"a", []string{"a\x00\x00\x00\x00\x00\x00\x00"}},
		{"\x00", []string{zeros}},
		{"abcdefg", []string{"abcdefg\x00"}},
		{"abcdefgh", []string{"abcdefgh"}},
		{"abcdefghi", []string{"abcdefgh", "i\x00\x00\x00\x00\x00\x00\x00"}},
		{"abcdefghijklmno", []string{"abcdefgh", "ijklmno\x00"}},
		{"abcdefghijklmnop", []string{"abcdefgh", "ijklmnop"}},
		{"abcdefghijklmnopq", []string{"abcdefgh", "ijklmnop", "q\x00\x00\x00\x00\x00\x00\x00"}},
		{zeros + zeros, []string{zeros, zeros}},
		{zeros + "\x00\xff", []string{zeros, "\x00\xff\x00\x00\x00\x00\x00\x00"}},
		{"abcdefg\u00e9\u20ac", []string{"abcdefg\xc3", "\xa9\xe2\x82\xac\x00\x00\x00\x00"}},
	} {
		checkWordsOf(t, c.s, c.want)
	}
}

func TestWordsOfManyLengths(t *testing.T) {
	lengths := []int{4095, 4096, impl.MaxText - 9, impl.MaxText - 8, impl.MaxText - 7, impl.MaxText - 1, impl.MaxText}
	for n := range 200 {
		lengths = append(lengths, n)
	}
	for _, n := range lengths {
		for _, s := range []string{textOf(n), strings.Repeat("\x00", n), strings.Repeat("\xff", n)} {
			padded := s + strings.Repeat("\x00", (8-n%8)%8)
			want := []string{}
			for at := 0; at < len(padded); at += 8 {
				want = append(want, padded[at:at+8])
			}
			checkWordsOf(t, s, want)
		}
	}
}

func TestWordsOfTextsThatAreTooLong(t *testing.T) {
	if got := len(impl.WordsOf(strings.Repeat("\x01", impl.MaxText))); got != 2500 {
		t.Errorf("WordsOf of MaxText bytes: got %d words, want 2500", got)
	}
	for _, n := range []int{1, 2, 7, 8, 9, impl.MaxText} {
		checkWordsOf(t, textOf(impl.MaxText+n), nil)
		checkWordsOf(t, strings.Repeat("\x00", impl.MaxText+n), nil)
	}
}

func TestWordsOfReturnsNewMemory(t *testing.T) {
	first, second := impl.WordsOf("abcdefghi"), impl.WordsOf("abcdefghi")
	for i := range first {
		first[i] = "changed"
	}
	want := []string{"abcdefgh", "i\x00\x00\x00\x00\x00\x00\x00"}
	if !slices.Equal(second, want) {
		t.Errorf("a second result changed with the first: %q", second)
	}
	checkWordsOf(t, "abcdefghi", want)
}

func TestZeroTextWithinTheRange(t *testing.T) {
	for n := range 300 {
		checkZeroText(t, n, n)
	}
	for _, n := range []int{4096, impl.MaxText - 1, impl.MaxText} {
		checkZeroText(t, n, n)
	}
}

func TestZeroTextOutsideTheRange(t *testing.T) {
	for _, n := range []int{-1, -2, -8, -impl.MaxText, -1 << 32, impl.MaxText + 1, impl.MaxText + 2, 2 * impl.MaxText, 1 << 32, 1<<32 + 1, 1 << 62, math.MaxInt, math.MinInt} {
		checkZeroText(t, n, 0)
	}
}
