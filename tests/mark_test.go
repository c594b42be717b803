package tests

import (
	"crypto/hmac"
	"crypto/sha256"
	"encoding/hex"
	"math"
	"math/rand"
	"strings"
	"testing"

	"loop.example/g00969/impl"
)

// The seven test cases of RFC 4231; the fifth gives only the first 16 bytes of its tag.
var knownTags = []struct{ key, text, digits string }{
	{strings.Repeat("\x0b", 20), "Hi There", "b0344c61d8db38535ca8afceaf0bf12b881dc200c9833da726e9376c2e32cff7"},
	{"Jefe", "what do ya want for nothing?", "5bdcc146bf60754e6a042426089575c75a003f089d2739839dec58b964ec3843"},
	{strings.Repeat("\xaa", 20), strings.Repeat("\xdd", 50), "773ea91e36800e46854db8ebd09181a72959098b3ef8c122d9635514ced565fe"},
	{
		"\x01\x02\x03\x04\x05\x06\x07\x08\x09\x0a\x0b\x0c\x0d\x0e\x0f\x10\x11\x12\x13\x14\x15\x16\x17\x18\x19", strings.Repeat("\xcd", 50),
		"82558a389a443c0ea4cc819899f2083a85f0faa3e578f8077a2e3ff46729665b",
	},
	{strings.Repeat("\x0c", 20), "Test With Truncation", "a3b6167473100ee06e0c796c2955552b"},
	{
		strings.Repeat("\xaa", 131), "Test Using Larger Than Block-Size Key - Hash Key First",
		"60e431591ee0b67f0d8a26aacbf5b77f8e0bc6213728c5140546040f0ee37f54",
	},
	{
		strings.Repeat("\xaa", 131),
		"This is a test using a larger than block-size key and a larger than block-size data. The key needs to be hashed before being used by the HMAC algorithm.",
		"9b09ffa71b942fcb27635fbcd5b0e944bfdc63644f0713938a7f51535c3a35e2",
	},
}

// The lengths of keys around the one from which on the digest of the key is used, and those of RFC 4231.
var keyLengths = []int{0, 1, 20, 31, 32, 33, 63, 64, 65, 66, 127, 128, 129, 131, 1000}

// The lengths of texts around the ends of the blocks of a digest.
var markedLengths = []int{0, 1, 54, 55, 56, 57, 63, 64, 65, 119, 120, 127, 128, 1000}

func tagOf(key string, text string) string {
	h := hmac.New(sha256.New, []byte(key))
	h.Write([]byte(text))
	return string(h.Sum(nil))
}

func checkHmac(t *testing.T, key string, text string) {
	t.Helper()
	if got, want := impl.Hmac(key, text), tagOf(key, text); got != want {
		t.Errorf("Hmac under a key of %d bytes of %d bytes: got %x, want %x", len(key), len(text), got, want)
	}
}

func checkHmacKey(t *testing.T, key string, want string) {
	t.Helper()
	if got := impl.HmacKey(key); got != want {
		t.Errorf("HmacKey of %d bytes: got %d bytes %x, want %x", len(key), len(got), got, want)
	}
}

func checkHmacOk(t *testing.T, key string, text string, tag string, want bool) {
	t.Helper()
	if got := impl.HmacOk(key, text, tag); got != want {
		t.Errorf("HmacOk under a key of %d bytes of %d bytes with the tag %x: got %v", len(key), len(text), tag, got)
	}
}

func checkSameBytes(t *testing.T, a string, b string, want bool) {
	t.Helper()
	if impl.SameBytes(a, b) != want || impl.SameBytes(b, a) != want {
		t.Errorf("SameBytes of %d and %d bytes %.20x, %.20x: want %v both ways round", len(a), len(b), a, b, want)
	}
}

// withBit returns the text with one bit of the byte at an index changed.
func withBit(text string, index int, bit byte) string {
	changed := []byte(text)
	changed[index] ^= bit
	return string(changed)
}

func eachByteMixed(text string, mask byte) string {
	mixed := []byte{}
	for _, b := range []byte(text) {
		mixed = append(mixed, b^mask)
	}
	return string(mixed)
}

func TestHmacKnownTags(t *testing.T) {
	for i, c := range knownTags {
		tag, err := hex.DecodeString(c.digits)
		if err != nil {
			t.Fatal(err)
		}
		if got := impl.CutMark(c.key, c.text, len(tag)); got != string(tag) {
			t.Errorf("case %d: CutMark gives %x, want %s", i+1, got, c.digits)
		}
		if got := impl.Hmac(c.key, c.text); len(got) != 32 || !strings.HasPrefix(got, string(tag)) {
			t.Errorf("case %d: Hmac gives %x, want %s", i+1, got, c.digits)
		}
		checkHmacOk(t, c.key, c.text, string(tag), len(tag) == 32)
	}
}

func TestHmacOfManyKeysAndTexts(t *testing.T) {
	for _, k := range keyLengths {
		for _, n := range markedLengths {
			checkHmac(t, textOf(k), textOf(n))
			checkHmac(t, strings.Repeat("\x00", k), strings.Repeat("\xff", n))
			checkHmac(t, strings.Repeat("\xff", k), strings.Repeat("\x00", n))
		}
	}
	for n := range 200 {
		checkHmac(t, textOf(n), "a text")
		checkHmac(t, "a key", textOf(n))
	}
	for _, n := range []int{4096, impl.MaxText, impl.MaxText + 1} {
		checkHmac(t, textOf(n), "a text")
		checkHmac(t, "a key", textOf(n))
	}
}

func TestHmacOfEveryByte(t *testing.T) {
	for b := range 256 {
		c := string([]byte{byte(b)})
		checkHmac(t, c, "a text")
		checkHmac(t, "a key", c)
		checkHmac(t, c+textOf(63), c+textOf(63))
	}
}

func TestHmacOfNothing(t *testing.T) {
	want := "b613679a0814d9ec772f95d778c35fc5ff1697c493715653c6c712144292c5ad"
	if got := hex.EncodeToString([]byte(impl.Hmac("", ""))); got != want {
		t.Errorf("Hmac of the empty key and text: got %s, want %s", got, want)
	}
	checkHmac(t, "", "a text")
	checkHmac(t, "a key", "")
	checkHmac(t, textOf(131), "")
}

func TestHmacKeyUpToABlock(t *testing.T) {
	for n := 0; n <= 64; n++ {
		key := textOf(n)
		checkHmacKey(t, key, key+strings.Repeat("\x00", 64-n))
	}
	checkHmacKey(t, "", strings.Repeat("\x00", 64))
	checkHmacKey(t, strings.Repeat("\xff", 64), strings.Repeat("\xff", 64))
}

func TestHmacKeyLongerThanABlock(t *testing.T) {
	for _, n := range []int{65, 66, 96, 127, 128, 129, 131, 1000, impl.MaxText + 1} {
		for _, key := range []string{textOf(n), strings.Repeat("\x00", n), strings.Repeat("\xaa", n)} {
			digest := sha256.Sum256([]byte(key))
			checkHmacKey(t, key, string(digest[:])+strings.Repeat("\x00", 32))
		}
	}
}

func TestKeysThatDifferByZeroBytes(t *testing.T) {
	for _, n := range []int{0, 1, 4, 31, 32, 63} {
		key := textOf(n)
		want := impl.Hmac(key, "a text")
		for zeros := 1; n+zeros <= 64; zeros++ {
			if got := impl.Hmac(key+strings.Repeat("\x00", zeros), "a text"); got != want {
				t.Errorf("a key of %d bytes and %d zero bytes: got %x, want %x", n, zeros, got, want)
			}
		}
		for _, length := range []int{65, 66, 128, 131} {
			long := key + strings.Repeat("\x00", length-n)
			if impl.Hmac(long, "a text") == want {
				t.Errorf("a key of %d bytes has the tag of its first %d bytes", length, n)
			}
			checkHmac(t, long, "a text")
		}
	}
}

// A zero byte at the beginning of a key is a part of it.
func TestKeysThatBeginWithAZeroByte(t *testing.T) {
	if impl.Hmac("\x00a key", "a text") == impl.Hmac("a key", "a text") {
		t.Error("a zero byte before a key does not count")
	}
	checkHmac(t, "\x00a key", "a text")
}

// A long key and its digest are the same key.
func TestDigestOfALongKeyIsItsKey(t *testing.T) {
	for _, n := range []int{65, 131, 500} {
		key := textOf(n)
		if impl.Hmac(key, "a text") != impl.Hmac(impl.Digest(key), "a text") {
			t.Errorf("a key of %d bytes and its digest give other tags", n)
		}
	}
	if short := textOf(64); impl.Hmac(short, "a text") == impl.Hmac(impl.Digest(short), "a text") {
		t.Error("a key of 64 bytes has the tag of its digest")
	}
}

// The tag is put together here from Digest and HmacKey, as the document says.
func TestHmacFromItsParts(t *testing.T) {
	for _, k := range keyLengths {
		for _, n := range markedLengths {
			key, text := textOf(k), textOf(n)
			block := impl.HmacKey(key)
			inner := impl.Digest(eachByteMixed(block, 54) + text)
			want := impl.Digest(eachByteMixed(block, 92) + inner)
			if got := impl.Hmac(key, text); got != want {
				t.Errorf("Hmac under a key of %d bytes of %d bytes: got %x, its parts give %x", k, n, got, want)
			}
		}
	}
}

func TestTagIsValidForItsKeyAndText(t *testing.T) {
	for _, k := range keyLengths {
		for _, n := range markedLengths {
			key, text := textOf(k), textOf(n)
			checkHmacOk(t, key, text, impl.Hmac(key, text), true)
			checkHmacOk(t, key, text, tagOf(key, text), true)
		}
	}
	source := rand.New(rand.NewSource(3))
	for range 200 {
		key, text := make([]byte, source.Intn(150)), make([]byte, source.Intn(150))
		source.Read(key)
		source.Read(text)
		checkHmacOk(t, string(key), string(text), tagOf(string(key), string(text)), true)
	}
}

func TestTagIsNotValidForAnotherKey(t *testing.T) {
	const text = "a text"
	for _, n := range keyLengths {
		key := textOf(n)
		tag := impl.Hmac(key, text)
		checkHmacOk(t, key+"x", text, tag, false)
		checkHmacOk(t, "x"+key, text, tag, false)
		for i := range min(n, 131) {
			checkHmacOk(t, withBit(key, i, 1), text, tag, false)
			checkHmacOk(t, withBit(key, i, 128), text, tag, false)
		}
		if n > 0 {
			checkHmacOk(t, key[:n-1], text, tag, false)
			checkHmacOk(t, "", text, tag, false)
		}
	}
	checkHmacOk(t, text, "a key", impl.Hmac("a key", text), false)
}

func TestTagIsNotValidForAnotherText(t *testing.T) {
	for _, key := range []string{"", "a key", textOf(64), textOf(131)} {
		for _, n := range markedLengths {
			text := textOf(n)
			tag := impl.Hmac(key, text)
			checkHmacOk(t, key, text+"x", tag, false)
			checkHmacOk(t, key, text+"\x00", tag, false)
			checkHmacOk(t, key, "\x00"+text, tag, false)
			for i := range min(n, 131) {
				checkHmacOk(t, key, withBit(text, i, 1), tag, false)
				checkHmacOk(t, key, withBit(text, i, 128), tag, false)
			}
			if n > 0 {
				checkHmacOk(t, key, text[:n-1], tag, false)
				checkHmacOk(t, key, text[1:], tag, false)
				checkHmacOk(t, key, "", tag, false)
			}
		}
	}
}

// A key and a text that are one string together are told apart.
func TestTagDependsOnWhereTheKeyEnds(t *testing.T) {
	const whole = "a key and a text"
	for i := range len(whole) {
		checkHmacOk(t, whole[:i], whole[i:], impl.Hmac(whole[:i+1], whole[i+1:]), false)
	}
}

// The digest of a text's blocks can be extended; the tag cannot, because it is the digest of another digest.
func TestTagIsNotTheInnerDigest(t *testing.T) {
	for _, key := range []string{"", "a key", textOf(131)} {
		block := impl.HmacKey(key)
		checkHmacOk(t, key, "a text", impl.Digest(eachByteMixed(block, 54)+"a text"), false)
		checkHmacOk(t, key, "a text", impl.Digest(eachByteMixed(block, 92)+"a text"), false)
		checkHmacOk(t, key, "a text", impl.Digest(block+"a text"), false)
		checkHmacOk(t, key, "a text", impl.Digest("a text"), false)
	}
}

func TestChangedTagIsNotValid(t *testing.T) {
	for _, key := range []string{"", "a key", textOf(64), textOf(131)} {
		for _, text := range []string{"", "a text", textOf(64)} {
			tag := impl.Hmac(key, text)
			for i := range 32 {
				for bit := byte(1); bit != 0; bit <<= 1 {
					checkHmacOk(t, key, text, withBit(tag, i, bit), false)
				}
				checkHmacOk(t, key, text, withBit(tag, i, 255), false)
			}
			// Two changes by the same bit leave the exclusive or and the sum of all differences 0.
			checkHmacOk(t, key, text, withBit(withBit(tag, 0, 4), 31, 4), false)
			checkHmacOk(t, key, text, withBit(withBit(tag, 5, 128), 6, 128), false)
		}
	}
}

func TestTagOfOtherLengthIsNotValid(t *testing.T) {
	for _, key := range []string{"", "a key", textOf(131)} {
		for _, text := range []string{"", "a text", textOf(64)} {
			tag := impl.Hmac(key, text)
			for n := range 32 {
				checkHmacOk(t, key, text, tag[:n], false)
				checkHmacOk(t, key, text, tag[32-n:], false)
			}
			for _, more := range []string{"\x00", "x", tag[31:], tag} {
				checkHmacOk(t, key, text, tag+more, false)
				checkHmacOk(t, key, text, more+tag, false)
			}
			checkHmacOk(t, key, text, tag[:31]+"\x00", tag[31] == 0)
			checkHmacOk(t, key, text, hex.EncodeToString([]byte(tag)), false)
			checkHmacOk(t, key, text, "", false)
			checkHmacOk(t, key, text, strings.Repeat("\x00", 32), false)
		}
	}
}

func TestCutMarkWithinTheRange(t *testing.T) {
	for _, n := range keyLengths {
		for _, text := range []string{"", "a text", textOf(64)} {
			whole := tagOf(textOf(n), text)
			for w := 1; w <= 32; w++ {
				if got := impl.CutMark(textOf(n), text, w); got != whole[:w] {
					t.Errorf("CutMark under a key of %d bytes of %d bytes, %d: got %x, want %x", n, len(text), w, got, whole[:w])
				}
			}
		}
	}
}

func TestCutMarkOutsideTheRange(t *testing.T) {
	for _, w := range []int{0, -1, -2, -31, -32, -33, 33, 34, 64, 65, 256, 257, 1 << 32, 1<<32 + 1, math.MaxInt, math.MinInt} {
		for _, key := range []string{"", "a key", textOf(131)} {
			for _, text := range []string{"", "a text", textOf(64)} {
				if got := impl.CutMark(key, text, w); got != "" {
					t.Errorf("CutMark under a key of %d bytes of %d bytes, %d: got %x, want nothing", len(key), len(text), w, got)
				}
			}
		}
	}
}

func TestSameBytesOfEqualStrings(t *testing.T) {
	checkSameBytes(t, "", "", true)
	checkSameBytes(t, "\x00", "\x00", true)
	for n := range 130 {
		checkSameBytes(t, textOf(n), strings.Clone(textOf(n)), true)
	}
	checkSameBytes(t, textOf(impl.MaxText+1), textOf(impl.MaxText+1), true)
}

func TestSameBytesOfStringsThatDiffer(t *testing.T) {
	for _, n := range []int{1, 2, 3, 7, 8, 9, 31, 32, 33, 64, 65} {
		text := textOf(n)
		for i := range n {
			for bit := byte(1); bit != 0; bit <<= 1 {
				checkSameBytes(t, text, withBit(text, i, bit), false)
			}
		}
	}
	long := textOf(impl.MaxText + 1)
	checkSameBytes(t, long, withBit(long, 0, 1), false)
	checkSameBytes(t, long, withBit(long, impl.MaxText, 128), false)
	checkSameBytes(t, "ab", "ba", false)
	checkSameBytes(t, "\x00\x00", "\x01\x01", false)
	checkSameBytes(t, "\x00\x00", "\x80\x80", false)
	checkSameBytes(t, "a", "A", false)
}

func TestSameBytesOfStringsOfOtherLength(t *testing.T) {
	for _, n := range []int{0, 1, 2, 8, 31, 32, 64} {
		text := textOf(n)
		checkSameBytes(t, text, text+"\x00", false)
		checkSameBytes(t, text, text+"x", false)
		checkSameBytes(t, text, text+textOf(32), false)
		checkSameBytes(t, strings.Repeat("\x00", n), strings.Repeat("\x00", n+1), false)
		checkSameBytes(t, text, "x"+text, false)
	}
	checkSameBytes(t, "", textOf(256), false)
	checkSameBytes(t, textOf(1), textOf(257), false)
}
