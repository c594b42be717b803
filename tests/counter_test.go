package tests

import (
	"crypto/aes"
	"crypto/cipher"
	"math"
	"math/rand"
	"strings"
	"testing"

	"loop.example/g00969/impl"
)

// zeroNonceDigits is a nonce of zero bytes.
const zeroNonceDigits = "000000000000000000000000"

// knownNonces are written out, so that the order of the numbers and of their bytes is checked without any other code.
var knownNonces = []struct {
	file, page, serial int
	nonce              string
}{
	{0, 0, 0, "\x00\x00\x00\x00\x00\x00\x00\x00\x00\x00\x00\x00"},
	{1, 2, 3, "\x00\x00\x00\x01\x00\x02\x00\x00\x00\x00\x00\x03"},
	{3, 2, 1, "\x00\x00\x00\x03\x00\x02\x00\x00\x00\x00\x00\x01"},
	{1, 0, 0, "\x00\x00\x00\x01\x00\x00\x00\x00\x00\x00\x00\x00"},
	{0, 1, 0, "\x00\x00\x00\x00\x00\x01\x00\x00\x00\x00\x00\x00"},
	{0, 0, 1, "\x00\x00\x00\x00\x00\x00\x00\x00\x00\x00\x00\x01"},
	{255, 255, 255, "\x00\x00\x00\xff\x00\xff\x00\x00\x00\x00\x00\xff"},
	{256, 256, 256, "\x00\x00\x01\x00\x01\x00\x00\x00\x00\x00\x01\x00"},
	{16909060, 1286, 7731092785932, "\x01\x02\x03\x04\x05\x06\x07\x08\x09\x0a\x0b\x0c"},
	{2147483648, 32768, 140737488355328, "\x80\x00\x00\x00\x80\x00\x80\x00\x00\x00\x00\x00"},
	{4294967295, 0, 0, "\xff\xff\xff\xff\x00\x00\x00\x00\x00\x00\x00\x00"},
	{0, 65535, 0, "\x00\x00\x00\x00\xff\xff\x00\x00\x00\x00\x00\x00"},
	{0, 0, 281474976710655, "\x00\x00\x00\x00\x00\x00\xff\xff\xff\xff\xff\xff"},
	{4294967295, 65535, 281474976710655, "\xff\xff\xff\xff\xff\xff\xff\xff\xff\xff\xff\xff"},
}

// The largest numbers that fit in the 4, 2 and 6 bytes of a nonce.
const (
	mostFile   = 4294967295
	mostPage   = 65535
	mostSerial = 281474976710655
)

// knownStreams are blocks of key streams from number i on: those of RFC 3686, whose counters begin at 1, and those of
// the test cases of GCM, which hides its tag with block 1 and its text with the blocks from 2 on.
var knownStreams = []struct {
	key, nonce string
	i          int
	blocks     []string
}{
	{"ae6852f8121067cc4bf7a5765577f39e", "000000300000000000000000", 1, []string{
		"b7603328dbc2931b410e16c8067e62df",
	}},
	{"7e24067817fae0d743d6ce1f32539163", "006cb6dbc0543b59da48d90b", 1, []string{
		"5105a305128f74de71044be582d7dd87", "fb3f0cef52cf41dfe4ff2ac48d5ca037",
	}},
	{zeroDigits, zeroNonceDigits, 0, []string{
		"66e94bd4ef8a2c3b884cfa59ca342b2e", "58e2fccefa7e3061367f1d57a4e7455a", "0388dace60b6a392f328c2b971b2fe78",
	}},
}

// knownTexts are encrypted from block i of the stream on: the vectors of RFC 3686 and a test case of GCM.
var knownTexts = []struct {
	key, nonce   string
	i            int
	plain, coded string
}{
	{
		"ae6852f8121067cc4bf7a5765577f39e", "000000300000000000000000", 1,
		"53696e676c6520626c6f636b206d7367", "e4095d4fb7a7b3792d6175a3261311b8",
	},
	{
		"7e24067817fae0d743d6ce1f32539163", "006cb6dbc0543b59da48d90b", 1,
		"000102030405060708090a0b0c0d0e0f101112131415161718191a1b1c1d1e1f",
		"5104a106168a72d9790d41ee8edad388eb2e1efc46da57c8fce630df9141be28",
	},
	{
		"7691be035e5020a8ac6e618529f9a0dc", "00e0017b27777f3f4a1786f0", 1,
		"000102030405060708090a0b0c0d0e0f101112131415161718191a1b1c1d1e1f20212223",
		"c1cf48a89f2ffdd9cf4652e9efdb72d74540a42bde6d7836d59a5ceaaef3105325b2072f",
	},
	{
		"feffe9928665731c6d6a8f9467308308", "cafebabefacedbaddecaf888", 2,
		"d9313225f88406e5a55909c5aff5269a86a7a9531534f7da2e4c303d8a318a721c3c0c95956809532fcf0e2449a6b525b16aedf5aa0de657ba637b391aafd255",
		"42831ec2217774244b7221b784d0d49ce3aa212f2c02a4e035c17e2329aca12e21d514b25466931c7d8f6a5aac84aa051ba30b396a0aac973d58e091473f5985",
	},
}

// streamLengths are those around the ends of blocks, and the longest ones.
var streamLengths = []int{
	0, 1, 2, 7, 8, 14, 15, 16, 17, 18, 30, 31, 32, 33, 47, 48, 49, 63, 64, 65, 100, 127, 128, 129, 255, 256, 257, 1000,
	4079, 4080, 4081, 4095, 4096,
}

// wrongLengths are lengths of streams that are not in the range.
var wrongLengths = []int{
	-1, -2, -15, -16, -17, -4096, -1 << 32, math.MinInt, math.MinInt + 1,
	4097, 4098, 4111, 4112, 4113, 8192, 65536, 1 << 32, 1<<32 + 1, 1<<32 + 16, 1 << 62, math.MaxInt - 15, math.MaxInt,
}

// streamSample is a key with a nonce.
type streamSample struct{ key, nonce string }

// streamSamples are pairs that differ in the key, in the nonce, in both, and in one bit only.
func streamSamples() []streamSample {
	zeroKey, zeroNonce := strings.Repeat("\x00", 16), strings.Repeat("\x00", 12)
	samples := []streamSample{
		{zeroKey, zeroNonce},
		{strings.Repeat("\xff", 16), strings.Repeat("\xff", 12)},
		{"0123456789abcdef", zeroNonce},
		{"0123456789abcdef", "\x00\x00\x00\x01\x00\x02\x00\x00\x00\x00\x00\x03"},
		{"0123456789abcdef", "\x00\x00\x00\x01\x00\x02\x00\x00\x00\x00\x00\x04"},
		{withBit(zeroKey, 0, 128), zeroNonce},
		{withBit(zeroKey, 15, 1), zeroNonce},
		{zeroKey, withBit(zeroNonce, 0, 128)},
		{zeroKey, withBit(zeroNonce, 11, 1)},
		{textOf(16), eachByteMixed(textOf(12), 85)},
	}
	source := rand.New(rand.NewSource(7))
	for range 6 {
		samples = append(samples, streamSample{randomText(source, 16), randomText(source, 12)})
	}
	return samples
}

// libraryStream is the standard library's stream for the same counters.
func libraryStream(t *testing.T, key string, nonce string, n int) string {
	t.Helper()
	block, err := aes.NewCipher([]byte(key))
	if err != nil {
		t.Fatal(err)
	}
	stream := make([]byte, n)
	cipher.NewCTR(block, []byte(nonce+"\x00\x00\x00\x00")).XORKeyStream(stream, stream)
	return string(stream)
}

// counterText writes a number below 256 as the counter behind a nonce.
func counterText(i int) string {
	return string([]byte{0, 0, 0, byte(i)})
}

func checkNonceOf(t *testing.T, file int, page int, serial int, want string) {
	t.Helper()
	if got := impl.NonceOf(file, page, serial); got != want {
		t.Errorf("NonceOf(%d, %d, %d): got %x, want %x", file, page, serial, got, want)
	}
}

func checkStreamOf(t *testing.T, key string, nonce string, n int, want string) {
	t.Helper()
	if got := impl.StreamOf(key, nonce, n); got != want {
		t.Errorf("StreamOf(%x, %x, %d): got %d bytes %.40x, want %d bytes %.40x", key, nonce, n, len(got), got, len(want), want)
	}
}

// checkStreamed does not print a whole text, which may have thousands of bytes.
func checkStreamed(t *testing.T, key string, nonce string, text string, want string) {
	t.Helper()
	if got := impl.Streamed(key, nonce, text); got != want {
		t.Errorf("Streamed(%x, %x, %d bytes %.40x): got %d bytes %.40x, want %d bytes %.40x", key, nonce, len(text), text, len(got), got, len(want), want)
	}
}

func checkStreamBlock(t *testing.T, key string, nonce string, i int, want string) {
	t.Helper()
	if got := impl.StreamBlock(key, nonce, i); got != want {
		t.Errorf("StreamBlock(%x, %x, %d): got %x, want %x", key, nonce, i, got, want)
	}
}

// checkComesBack encrypts a text and decrypts it again.
func checkComesBack(t *testing.T, key string, nonce string, text string) {
	t.Helper()
	coded := impl.Streamed(key, nonce, text)
	if len(coded) != len(text) {
		t.Errorf("Streamed(%x, %x, %d bytes): got %d bytes", key, nonce, len(text), len(coded))
	}
	checkStreamed(t, key, nonce, coded, text)
}

func TestCounterConstants(t *testing.T) {
	if impl.NonceSize != 12 {
		t.Errorf("got NonceSize %d, want 12", impl.NonceSize)
	}
}

func TestNonceOfKnownNonces(t *testing.T) {
	for _, c := range knownNonces {
		checkNonceOf(t, c.file, c.page, c.serial, c.nonce)
	}
}

func TestNonceOfNumbersAtTheEndsOfBytes(t *testing.T) {
	for _, file := range numbersOf(4) {
		checkNonceOf(t, file, 258, 772, encodedNumber(file, 4)+"\x01\x02\x00\x00\x00\x00\x03\x04")
	}
	for _, page := range numbersOf(2) {
		checkNonceOf(t, 258, page, 772, "\x00\x00\x01\x02"+encodedNumber(page, 2)+"\x00\x00\x00\x00\x03\x04")
	}
	for _, serial := range numbersOf(6) {
		checkNonceOf(t, 258, 772, serial, "\x00\x00\x01\x02\x03\x04"+encodedNumber(serial, 6))
	}
}

// The largest numbers beside the smallest ones, so that none of them reaches into the bytes of another.
func TestNonceOfAllEndsOfTheRanges(t *testing.T) {
	for _, file := range []int{0, 1, mostFile - 1, mostFile} {
		for _, page := range []int{0, 1, mostPage - 1, mostPage} {
			for _, serial := range []int{0, 1, mostSerial - 1, mostSerial} {
				checkNonceOf(t, file, page, serial, encodedNumber(file, 4)+encodedNumber(page, 2)+encodedNumber(serial, 6))
			}
		}
	}
}

func TestNonceOfNumbersThatComeBack(t *testing.T) {
	source := rand.New(rand.NewSource(70))
	for range 500 {
		file, page, serial := source.Intn(mostFile+1), source.Intn(mostPage+1), source.Intn(mostSerial+1)
		nonce := impl.NonceOf(file, page, serial)
		checkNumAt(t, nonce, 0, 4, file, true)
		checkNumAt(t, nonce, 4, 2, page, true)
		checkNumAt(t, nonce, 6, 6, serial, true)
		if len(nonce) != impl.NonceSize {
			t.Errorf("NonceOf(%d, %d, %d): got %d bytes", file, page, serial, len(nonce))
		}
	}
}

func TestNonceOfNegativeNumbers(t *testing.T) {
	for _, n := range []int{-1, -2, -128, -255, -256, -65536, -mostFile, -mostFile - 1, -mostSerial - 1, math.MinInt, math.MinInt + 1} {
		for _, other := range []int{0, 1, 255, mostPage} {
			checkNonceOf(t, n, other, other, "")
			checkNonceOf(t, other, n, other, "")
			checkNonceOf(t, other, other, n, "")
		}
		checkNonceOf(t, n, mostPage, mostSerial, "")
		checkNonceOf(t, mostFile, n, mostSerial, "")
		checkNonceOf(t, mostFile, mostPage, n, "")
		checkNonceOf(t, n, n, n, "")
	}
}

func TestNonceOfNumbersThatDoNotFit(t *testing.T) {
	for past := range 300 {
		checkNonceOf(t, mostFile+1+past, 0, 0, "")
		checkNonceOf(t, 0, mostPage+1+past, 0, "")
		checkNonceOf(t, 0, 0, mostSerial+1+past, "")
	}
	for shift := range 63 {
		n := 1 << shift
		if n > mostFile {
			checkNonceOf(t, n, 0, 0, "")
			checkNonceOf(t, n+7, mostPage, mostSerial, "")
		}
		if n > mostPage {
			checkNonceOf(t, 0, n, 0, "")
			checkNonceOf(t, mostFile, n+7, mostSerial, "")
		}
		if n > mostSerial {
			checkNonceOf(t, 0, 0, n, "")
			checkNonceOf(t, mostFile, mostPage, n+7, "")
		}
	}
	checkNonceOf(t, math.MaxInt, 0, 0, "")
	checkNonceOf(t, 0, math.MaxInt, 0, "")
	checkNonceOf(t, 0, 0, math.MaxInt, "")
	checkNonceOf(t, mostFile+1, mostPage+1, mostSerial+1, "")
	checkNonceOf(t, math.MaxInt, math.MaxInt, math.MaxInt, "")
}

func TestStreamKnownBlocks(t *testing.T) {
	for _, c := range knownStreams {
		key, nonce := unhexed(t, c.key), unhexed(t, c.nonce)
		for k, digits := range c.blocks {
			want := unhexed(t, digits)
			checkStreamBlock(t, key, nonce, c.i+k, want)
			stream := impl.StreamOf(key, nonce, 16*(c.i+k+1))
			if !strings.HasSuffix(stream, want) || len(stream) != 16*(c.i+k+1) {
				t.Errorf("StreamOf(%x, %x): block %d: got %x, want %x at the end", key, nonce, c.i+k, stream, want)
			}
		}
	}
}

// A text that begins within the stream is encrypted behind bytes that fill the blocks before it.
func TestStreamedKnownTexts(t *testing.T) {
	for _, c := range knownTexts {
		key, nonce := unhexed(t, c.key), unhexed(t, c.nonce)
		plain, coded := unhexed(t, c.plain), unhexed(t, c.coded)
		ahead := strings.Repeat("\x00", 16*c.i)
		before := impl.StreamOf(key, nonce, 16*c.i)
		checkStreamed(t, key, nonce, ahead+plain, before+coded)
		checkStreamed(t, key, nonce, before+coded, ahead+plain)
	}
}

// The stream is put together from blocks that are encrypted one by one, by this program and by the standard library.
func TestStreamOfIsItsBlocks(t *testing.T) {
	for _, s := range streamSamples() {
		want := ""
		for i := range 5 {
			block := s.nonce + counterText(i)
			if impl.BlockText(s.key, block) != encrypted(t, s.key, block) {
				t.Fatalf("BlockText(%x, %x): not the block of the standard library", s.key, block)
			}
			want += encrypted(t, s.key, block)
		}
		for n := 0; n <= len(want); n++ {
			checkStreamOf(t, s.key, s.nonce, n, want[:n])
		}
	}
}

func TestStreamOfSeveralLengths(t *testing.T) {
	for _, s := range streamSamples()[:6] {
		whole := libraryStream(t, s.key, s.nonce, 4096)
		for _, n := range streamLengths {
			checkStreamOf(t, s.key, s.nonce, n, whole[:n])
		}
	}
}

func TestShorterStreamBeginsTheLonger(t *testing.T) {
	key, nonce := "0123456789abcdef", "some nonce  "
	whole := impl.StreamOf(key, nonce, 4096)
	if len(whole) != 4096 {
		t.Fatalf("StreamOf 4096 bytes: got %d", len(whole))
	}
	for n := range 130 {
		checkStreamOf(t, key, nonce, n, whole[:n])
	}
	for _, n := range streamLengths {
		checkStreamOf(t, key, nonce, n, whole[:n])
	}
}

// A counter that is kept from call to call would change the later streams.
func TestStreamsOfLaterCalls(t *testing.T) {
	key, nonce := "0123456789abcdef", "some nonce  "
	first, other := impl.StreamOf(key, nonce, 50), impl.StreamOf(key, "other nonce ", 50)
	for range 3 {
		checkStreamOf(t, key, nonce, 50, first)
		checkStreamOf(t, key, "other nonce ", 50, other)
		checkStreamBlock(t, key, nonce, 1, first[16:32])
		checkStreamed(t, key, nonce, strings.Repeat("\x00", 50), first)
	}
}

func TestStreamsOfOtherKeysAndNoncesDiffer(t *testing.T) {
	seen := map[string]streamSample{}
	for _, s := range streamSamples() {
		for i := range 20 {
			block := impl.StreamBlock(s.key, s.nonce, i)
			if other, ok := seen[block]; ok {
				t.Errorf("StreamBlock(%x, %x, %d): got %x, also a block of %x, %x", s.key, s.nonce, i, block, other.key, other.nonce)
			}
			seen[block] = s
		}
	}
}

func TestStreamOfLengthsOutsideTheRange(t *testing.T) {
	for _, s := range streamSamples()[:4] {
		for _, n := range wrongLengths {
			checkStreamOf(t, s.key, s.nonce, n, "")
		}
	}
	for _, n := range wrongLengths {
		checkStreamOf(t, "", "", n, "")
		checkStreamOf(t, textOf(15), textOf(12), n, "")
		checkStreamOf(t, textOf(16), textOf(11), n, "")
	}
}

func TestStreamsOfWrongKeys(t *testing.T) {
	for _, length := range otherLengths {
		for _, n := range streamLengths {
			checkStreamOf(t, textOf(length), textOf(12), n, "")
			checkStreamed(t, textOf(length), textOf(12), textOf(n), "")
		}
		for _, i := range []int{-1, 0, 1, 255, 256} {
			checkStreamBlock(t, textOf(length), textOf(12), i, "")
		}
	}
}

func TestStreamsOfWrongNonces(t *testing.T) {
	for length := range 41 {
		if length == 12 {
			continue
		}
		for _, n := range streamLengths {
			checkStreamOf(t, textOf(16), textOf(length), n, "")
			checkStreamed(t, textOf(16), textOf(length), textOf(n), "")
		}
		for _, i := range []int{-1, 0, 1, 255, 256} {
			checkStreamBlock(t, textOf(16), textOf(length), i, "")
		}
	}
	checkStreamOf(t, textOf(16), textOf(4096), 16, "")
	checkStreamed(t, textOf(16), textOf(4096), "a", "")
}

// The lengths of both together are right, and those of each are not.
func TestStreamsOfAKeyAndANonceThatShareTheirBytes(t *testing.T) {
	for _, length := range []int{12, 15, 17, 20, 28} {
		key, nonce := textOf(length), textOf(28-length)
		checkStreamOf(t, key, nonce, 16, "")
		checkStreamed(t, key, nonce, "a", "")
		checkStreamBlock(t, key, nonce, 0, "")
	}
}

func TestStreamedTwiceGivesTheText(t *testing.T) {
	texts := []string{"a", "\x00", "\xff", "some text that is longer", "caf\u00e9 \u20ac", "\xff\xfe\x80\x00\x7f", strings.Repeat("\x00", 33), strings.Repeat("\xff", 33)}
	for _, s := range streamSamples() {
		for _, text := range texts {
			checkComesBack(t, s.key, s.nonce, text)
		}
		for n := range 70 {
			checkComesBack(t, s.key, s.nonce, textOf(n))
		}
		checkComesBack(t, s.key, s.nonce, impl.StreamOf(s.key, s.nonce, 40))
	}
}

func TestStreamedTwiceGivesTextsOfSeveralLengths(t *testing.T) {
	source := rand.New(rand.NewSource(77))
	for _, s := range streamSamples()[:4] {
		for _, n := range streamLengths {
			checkComesBack(t, s.key, s.nonce, randomText(source, n))
		}
	}
}

// A text that came back would also do so if nothing, or too little, were encrypted.
func TestStreamedIsTheTextAndTheStream(t *testing.T) {
	for _, s := range streamSamples()[:5] {
		whole := libraryStream(t, s.key, s.nonce, 4096)
		for _, n := range streamLengths {
			want := make([]byte, n)
			for i, b := range []byte(textOf(n)) {
				want[i] = b ^ whole[i]
			}
			checkStreamed(t, s.key, s.nonce, textOf(n), string(want))
			checkStreamed(t, s.key, s.nonce, strings.Repeat("\x00", n), whole[:n])
			checkStreamed(t, s.key, s.nonce, whole[:n], strings.Repeat("\x00", n))
		}
	}
}

func TestStreamedUnderAnotherKeyOrNonce(t *testing.T) {
	text := "a text that only its own key and nonce give back"
	coded := impl.Streamed("0123456789abcdef", "some nonce  ", text)
	for _, c := range []streamSample{{"0123456789abcdeg", "some nonce  "}, {"0123456789abcdef", "some nonce! "}, {"0123456789abcdeg", "some nonce! "}} {
		if got := impl.Streamed(c.key, c.nonce, coded); got == text || len(got) != len(text) {
			t.Errorf("Streamed under %q, %q: got %q", c.key, c.nonce, got)
		}
	}
	checkStreamed(t, "0123456789abcdef", "some nonce  ", coded, text)
}

func TestStreamedOfAnEmptyText(t *testing.T) {
	for _, s := range streamSamples() {
		checkStreamed(t, s.key, s.nonce, "", "")
	}
	for _, key := range []string{"", "a", textOf(15), textOf(16), textOf(17), textOf(4096)} {
		for _, nonce := range []string{"", "a", textOf(11), textOf(12), textOf(13), textOf(4096)} {
			checkStreamed(t, key, nonce, "", "")
		}
	}
}

func TestStreamedOfTextsThatAreTooLong(t *testing.T) {
	for _, s := range streamSamples()[:3] {
		for _, n := range []int{4097, 4098, 4111, 4112, 4113, 5000, 8192, impl.MaxText, impl.MaxText + 1, 65536, 1 << 20} {
			checkStreamed(t, s.key, s.nonce, textOf(n), "")
			checkStreamed(t, s.key, s.nonce, strings.Repeat("\x00", n), "")
		}
	}
}

func TestStreamBlockOfEveryNumber(t *testing.T) {
	for _, s := range streamSamples()[:3] {
		whole := impl.StreamOf(s.key, s.nonce, 4096)
		if len(whole) != 4096 {
			t.Fatalf("StreamOf 4096 bytes: got %d", len(whole))
		}
		for i := range 256 {
			want := encrypted(t, s.key, s.nonce+counterText(i))
			checkStreamBlock(t, s.key, s.nonce, i, want)
			if got := whole[16*i : 16*i+16]; got != want {
				t.Errorf("StreamOf(%x, %x, 4096): block %d: got %x, want %x", s.key, s.nonce, i, got, want)
			}
		}
	}
}

func TestStreamBlockAtTheEnds(t *testing.T) {
	for _, s := range streamSamples() {
		for _, i := range []int{0, 1, 2, 127, 128, 254, 255} {
			checkStreamBlock(t, s.key, s.nonce, i, impl.BlockText(s.key, s.nonce+impl.NumText(i, 4)))
		}
	}
}

// The numbers above 255 are refused also where the counter itself, or its last byte, could be written.
func TestStreamBlockOfNumbersOutsideTheRange(t *testing.T) {
	for _, s := range streamSamples() {
		for _, i := range []int{-1, -2, -16, -255, -256, -1 << 32, math.MinInt, math.MinInt + 1, 256, 257, 511, 512, 4095, 4096, 65535, 65536, mostFile, mostFile + 1, mostFile + 2, 1 << 62, math.MaxInt} {
			checkStreamBlock(t, s.key, s.nonce, i, "")
		}
	}
}
