package tests

import (
	"bytes"
	"crypto/sha256"
	"encoding"
	"encoding/binary"
	"encoding/hex"
	"math"
	"math/rand"
	"slices"
	"strings"
	"testing"

	"loop.example/g00969/impl"
)

const mostWord = 4294967295

// The eight initial words as the standard gives them.
var initialWords = [8]int{
	0x6a09e667, 0xbb67ae85, 0x3c6ef372, 0xa54ff53a, 0x510e527f, 0x9b05688c, 0x1f83d9ab, 0x5be0cd19,
}

// The known digests, most of them from the standard's examples, the others for the texts whose padding falls near a block boundary.
var knownDigests = []struct{ text, digits string }{
	{"", "e3b0c44298fc1c149afbf4c8996fb92427ae41e4649b934ca495991b7852b855"},
	{"a", "ca978112ca1bbdcafac231b39a23dc4da786eff8147c4e72b9807785afee48bb"},
	{"abc", "ba7816bf8f01cfea414140de5dae2223b00361a396177a9cb410ff61f20015ad"},
	{"message digest", "f7846f55cf23e14eebeab5b4e1550cad5b509e3348fbc4efa3a1413d393cb650"},
	{"abcdbcdecdefdefgefghfghighijhijkijkljklmklmnlmnomnopnopq", "248d6a61d20638b8e5c026930c3e6039a33ce45964ff2167f6ecedd419db06c1"},
	{
		"abcdefghbcdefghicdefghijdefghijkefghijklfghijklmghijklmnhijklmnoijklmnopjklmnopqklmnopqrlmnopqrsmnopqrstnopqrstu",
		"cf5b16a778af8380036ce59e7b0492370b249b11e8f07a51afac45037afee9d1",
	},
	{strings.Repeat("a", 1000000), "cdc76e5c9914fb9281a1c7e284d73e67f1809a48a497200e046d39ccc7112cd0"},
	{"\xbd", "68325720aabd7c82f30f554b313d0570c95accbb7dc4b5aae11204c08ffe732b"},
	{"\xc9\x8c\x8e\x55", "7abc22c0ae5af26ce93dbb94433a0e0b2e119d014f8e7f65bd56c61ccccd9504"},
	{strings.Repeat("\x00", 55), "02779466cdec163811d078815c633f21901413081449002f24aa3e80f0b88ef7"},
	{strings.Repeat("\x00", 56), "d4817aa5497628e7c77e6b606107042bbba3130888c5f47a375e6179be789fbb"},
	{strings.Repeat("\x00", 57), "65a16cb7861335d5ace3c60718b5052e44660726da4cd13bb745381b235a1785"},
	{strings.Repeat("\x00", 64), "f5a5fd42d16a20302798ef6ed309979b43003d2320d9f0e8ea9831a92759fb4b"},
	{strings.Repeat("\x00", 1000), "541b3e9daa09b20bf85fa273e5cbd3e80185aa4ec298e765db87742b70138a53"},
}

// boundaryLengths lie around the places where the padding or its length begins another block.
var boundaryLengths = []int{0, 1, 54, 55, 56, 57, 62, 63, 64, 65, 66, 118, 119, 120, 121, 127, 128, 129, 183, 184, 191, 192, 193}

// textOf returns n bytes in which no two neighbours are equal, so that a byte that is skipped or moved shows.
func textOf(n int) string {
	text := make([]byte, n)
	for i := range text {
		text[i] = byte(i*167 + i/256 + 3)
	}
	return string(text)
}

func checkDigest(t *testing.T, text string) {
	t.Helper()
	want := sha256.Sum256([]byte(text))
	if got := impl.Digest(text); got != string(want[:]) {
		t.Errorf("Digest of %d bytes: got %x, want %x", len(text), got, want)
	}
}

func checkPadText(t *testing.T, text string) {
	t.Helper()
	want := append([]byte(text), 128)
	for len(want)%64 != 56 {
		want = append(want, 0)
	}
	want = binary.BigEndian.AppendUint64(want, uint64(len(text))*8)
	if got := impl.PadText(text); got != string(want) {
		t.Errorf("PadText of %d bytes: got %d bytes ending with %x, want %d bytes ending with %x", len(text), len(got), got[max(0, len(got)-64):], len(want), want[len(want)-64:])
	}
}

// stateAfter computes the compression function with the standard library, which can be resumed from any state between two blocks.
func stateAfter(t *testing.T, state []int, block string) []int {
	t.Helper()
	saved := []byte("sha\x03")
	for _, n := range state {
		saved = binary.BigEndian.AppendUint32(saved, uint32(n))
	}
	saved = append(saved, make([]byte, 64+8)...)
	h := sha256.New()
	if err := h.(encoding.BinaryUnmarshaler).UnmarshalBinary(saved); err != nil {
		t.Fatal(err)
	}
	h.Write([]byte(block))
	after, err := h.(encoding.BinaryMarshaler).MarshalBinary()
	if err != nil || !bytes.HasPrefix(after, []byte("sha\x03")) {
		t.Fatalf("the standard library's state: %x, %v", after, err)
	}
	words := []int{}
	for i := range 8 {
		words = append(words, int(binary.BigEndian.Uint32(after[4+4*i:])))
	}
	return words
}

func checkShaBlock(t *testing.T, state []int, block string, want []int) {
	t.Helper()
	given := slices.Clone(state)
	got := impl.ShaBlock(state, block)
	if !slices.Equal(got, want) {
		t.Errorf("ShaBlock(%v, %d bytes): got %v, want %v", given, len(block), got, want)
	}
	if !slices.Equal(state, given) {
		t.Errorf("ShaBlock wrote to its argument: %v became %v", given, state)
	}
}

// checkUnchanged also checks that the result and the argument share no memory, the spare capacity of both included.
func checkUnchanged(t *testing.T, state []int, block string) {
	t.Helper()
	const spare = -77
	roomy := append(slices.Clone(state), spare, spare)[:len(state)]
	checkShaBlock(t, roomy, block, state)
	result := impl.ShaBlock(roomy, block)
	for i := range result {
		result[i] = -99
	}
	for i := range result[:cap(result)] {
		result[:cap(result)][i] = -99
	}
	if want := append(slices.Clone(state), spare, spare); !slices.Equal(roomy[:len(state)+2], want) {
		t.Errorf("ShaBlock of %d words and %d bytes shares memory with its argument", len(state), len(block))
	}
}

func TestDigestLimits(t *testing.T) {
	if impl.DigestSize != 32 || impl.BlockSize != 64 {
		t.Errorf("DigestSize %d, BlockSize %d; want 32, 64", impl.DigestSize, impl.BlockSize)
	}
}

func TestDigestKnownValues(t *testing.T) {
	for _, c := range knownDigests {
		if got := impl.DigestHex(c.text); got != c.digits {
			t.Errorf("DigestHex of %d bytes %.20q: got %s, want %s", len(c.text), c.text, got, c.digits)
		}
		want, err := hex.DecodeString(c.digits)
		if err != nil {
			t.Fatal(err)
		}
		if got := impl.Digest(c.text); got != string(want) {
			t.Errorf("Digest of %d bytes %.20q: got %x, want %x", len(c.text), c.text, got, want)
		}
	}
}

func TestDigestOfEveryLength(t *testing.T) {
	for n := range 5 * impl.BlockSize {
		checkDigest(t, textOf(n))
		checkDigest(t, strings.Repeat("\x00", n))
		checkDigest(t, strings.Repeat("\xff", n))
		checkDigest(t, strings.Repeat("\x80", n))
	}
	for _, n := range []int{4095, 4096, 8191, 8192, 8193, impl.MaxText, impl.MaxText + 1, 3*impl.MaxText + 7} {
		checkDigest(t, textOf(n))
	}
}

func TestDigestOfEveryByte(t *testing.T) {
	for b := range 256 {
		c := string([]byte{byte(b)})
		checkDigest(t, c)
		checkDigest(t, "x"+c)
		checkDigest(t, c+"\x00")
	}
	checkDigest(t, "caf\u00e9")
	checkDigest(t, "\xff\xfe\n\r\x00")
}

// DigestHex is Hex of Digest, also for texts that Hex itself refuses as too long.
func TestDigestHexIsHexOfDigest(t *testing.T) {
	for _, n := range append([]int{impl.MaxText, impl.MaxText + 1, 3 * impl.MaxText}, boundaryLengths...) {
		text := textOf(n)
		if got, want := impl.DigestHex(text), hex.EncodeToString([]byte(impl.Digest(text))); got != want {
			t.Errorf("DigestHex of %d bytes: got %q, want %q", n, got, want)
		}
	}
}

func TestPadTextOfEveryLength(t *testing.T) {
	for n := range 4 * impl.BlockSize {
		checkPadText(t, textOf(n))
		checkPadText(t, strings.Repeat("\x80", n))
		checkPadText(t, strings.Repeat("\x00", n))
	}
	// The length in bits needs two, three and four bytes here.
	for _, n := range []int{8191, 8192, 8193, impl.MaxText, impl.MaxText + 1, 2097151, 2097152} {
		checkPadText(t, textOf(n))
	}
}

func TestPadTextKnownLengths(t *testing.T) {
	for _, c := range []struct{ n, padded int }{
		{0, 64}, {1, 64}, {54, 64}, {55, 64}, {56, 128}, {63, 128}, {64, 128}, {65, 128},
		{118, 128}, {119, 128}, {120, 192}, {127, 192}, {128, 192}, {183, 192}, {184, 256},
	} {
		got := impl.PadText(textOf(c.n))
		if len(got) != c.padded {
			t.Errorf("PadText of %d bytes: got %d bytes, want %d", c.n, len(got), c.padded)
		}
	}
	if got, want := impl.PadText(""), "\x80"+strings.Repeat("\x00", 63); got != want {
		t.Errorf("PadText of the empty text: got %x", got)
	}
	if got, want := impl.PadText("abc"), "abc\x80"+strings.Repeat("\x00", 59)+"\x18"; got != want {
		t.Errorf("PadText of abc: got %x", got)
	}
	full := textOf(55)
	if got, want := impl.PadText(full), full+"\x80\x00\x00\x00\x00\x00\x00\x01\xb8"; got != want {
		t.Errorf("PadText of 55 bytes: got %x", got)
	}
	long := textOf(64)
	if got, want := impl.PadText(long), long+"\x80"+strings.Repeat("\x00", 61)+"\x02\x00"; got != want {
		t.Errorf("PadText of 64 bytes: got %x", got)
	}
}

func TestShaStart(t *testing.T) {
	if got := impl.ShaStart(); !slices.Equal(got, initialWords[:]) {
		t.Errorf("ShaStart: got %x, want %x", got, initialWords)
	}
}

func TestShaStartReturnsNewMemory(t *testing.T) {
	first := impl.ShaStart()
	for i := range first {
		first[i] = 5
	}
	if got := impl.ShaStart(); !slices.Equal(got, initialWords[:]) {
		t.Errorf("ShaStart changed with an earlier result: %x", got)
	}
	checkDigest(t, "abc")
}

func TestShaBlockKnownValue(t *testing.T) {
	// The one block of "abc" leads to the words of its digest.
	want := []int{0xba7816bf, 0x8f01cfea, 0x414140de, 0x5dae2223, 0xb00361a3, 0x96177a9c, 0xb410ff61, 0xf20015ad}
	block := "abc\x80" + strings.Repeat("\x00", 59) + "\x18"
	checkShaBlock(t, initialWords[:], block, want)
}

func TestShaBlockOfManyStates(t *testing.T) {
	source := rand.New(rand.NewSource(2))
	blocks := []string{strings.Repeat("\x00", 64), strings.Repeat("\xff", 64), textOf(64)}
	states := [][]int{impl.ShaStart(), slices.Repeat([]int{0}, 8), slices.Repeat([]int{mostWord}, 8), {0, 1, 2, 3, mostWord, mostWord - 1, 1 << 31, 1<<31 - 1}}
	for i := range 8 {
		lone := make([]int, 8)
		lone[i] = mostWord
		states = append(states, lone)
	}
	for range 100 {
		block, state := make([]byte, 64), make([]int, 8)
		for i := range block {
			block[i] = byte(source.Intn(256))
		}
		for i := range state {
			state[i] = source.Intn(mostWord + 1)
		}
		blocks, states = append(blocks, string(block)), append(states, state)
	}
	for i, state := range states {
		for _, block := range []string{blocks[0], blocks[1], blocks[2], blocks[i%len(blocks)]} {
			checkShaBlock(t, state, block, stateAfter(t, state, block))
		}
	}
}

func TestShaBlockReturnsNewMemory(t *testing.T) {
	state := impl.ShaStart()
	result := impl.ShaBlock(state, textOf(64))
	want := slices.Clone(result)
	for i := range state {
		state[i] = 5
	}
	if !slices.Equal(result, want) {
		t.Error("the result of ShaBlock changed with its argument")
	}
	again := impl.ShaBlock(impl.ShaStart(), textOf(64))
	for i := range result {
		result[i] = 6
	}
	if !slices.Equal(again, want) {
		t.Error("a result of ShaBlock changed with another one")
	}
}

func TestShaBlockOtherNumberOfWords(t *testing.T) {
	for _, n := range []int{0, 1, 4, 7, 9, 16, 64} {
		state := make([]int, n)
		for i := range state {
			state[i] = i + 1
		}
		checkUnchanged(t, state, textOf(64))
		checkUnchanged(t, state, "")
	}
	checkShaBlock(t, nil, textOf(64), nil)
	checkShaBlock(t, append(impl.ShaStart(), 0), textOf(64), append(impl.ShaStart(), 0))
}

// Each of the eight words is tried with each number outside the range.
func TestShaBlockWordsOutsideTheRange(t *testing.T) {
	for i := range 8 {
		for _, n := range []int{-1, -5, mostWord + 1, mostWord + 2, -mostWord, -mostWord - 1, 1 << 33, 1 << 62, math.MaxInt, math.MinInt} {
			state := impl.ShaStart()
			state[i] = n
			checkUnchanged(t, state, textOf(64))
		}
		for _, n := range []int{0, mostWord} {
			state := impl.ShaStart()
			state[i] = n
			checkShaBlock(t, state, textOf(64), stateAfter(t, state, textOf(64)))
		}
	}
}

func TestShaBlockOtherLengthsOfBlock(t *testing.T) {
	for n := range 200 {
		if n != 64 {
			checkUnchanged(t, impl.ShaStart(), textOf(n))
		}
	}
	checkUnchanged(t, impl.ShaStart(), textOf(640))
	checkUnchanged(t, []int{1, 2, 3}, textOf(63))
	checkUnchanged(t, []int{-1, 2, 3, 4, 5, 6, 7, 8}, textOf(65))
}

// The digest is put together here from the other functions, as the document says.
func TestDigestFromItsParts(t *testing.T) {
	for _, n := range append([]int{500, 1000}, boundaryLengths...) {
		text := textOf(n)
		state := impl.ShaStart()
		padded := impl.PadText(text)
		for at := 0; at+64 <= len(padded); at += 64 {
			state = impl.ShaBlock(state, padded[at:at+64])
		}
		var want []byte
		for _, word := range state {
			want = binary.BigEndian.AppendUint32(want, uint32(word))
		}
		if got := impl.Digest(text); got != string(want) {
			t.Errorf("Digest of %d bytes: got %x, its parts give %x", n, got, want)
		}
	}
}

func TestCutDigestWithinTheRange(t *testing.T) {
	for _, text := range []string{"", "abc", textOf(55), textOf(56), textOf(64), textOf(1000)} {
		whole := sha256.Sum256([]byte(text))
		for w := 1; w <= 32; w++ {
			if got := impl.CutDigest(text, w); got != string(whole[:w]) {
				t.Errorf("CutDigest of %d bytes, %d: got %x, want %x", len(text), w, got, whole[:w])
			}
		}
	}
	if got := impl.CutDigest("abc", 1); got != "\xba" {
		t.Errorf("CutDigest of abc, 1: got %x", got)
	}
}

func TestCutDigestOutsideTheRange(t *testing.T) {
	for _, w := range []int{0, -1, -2, -31, -32, -33, 33, 34, 64, 256, 257, 1<<32 + 1, math.MaxInt, math.MinInt} {
		for _, text := range []string{"", "abc", textOf(64)} {
			if got := impl.CutDigest(text, w); got != "" {
				t.Errorf("CutDigest of %d bytes, %d: got %x, want nothing", len(text), w, got)
			}
		}
	}
}
