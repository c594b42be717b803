package tests

import (
	"math/rand"
	"slices"
	"strconv"
	"strings"
	"testing"

	"loop.example/g00969/impl"
)

// sealSample is what a page is sealed from.
type sealSample struct{ key, nonce, text string }

// knownPages are written out, so that the cipher and its counter are checked without any other code.
var knownPages = []struct{ key, nonce, text, page, mark string }{
	{
		"3132333435363738", "000000010000000000000001", "3031323334353637383961626364656630313233343536373839616263646566",
		"e5110720778656ac3ff3e46f87103a3b08291573a892dcf3ab29294f68ed625e", "55f2ebd0",
	},
	{
		"3132333435363738", "000000010000000000000002", "3031323334353637383961626364656630313233343536373839616263646566",
		"622e7e7a2d76bafc2649a4c05c78cb1ab450b69a550eb630140172dfec265cc3", "f91645eb",
	},
	{
		"3132333435363738", "000000010001000000000001", "3031323334353637383961626364656630313233343536373839616263646566",
		"e4ed9b438ab2b5ed27e0fe270f32a0ed021ae48a57f3c6710c2b73b17aeaec05", "c9d2969b",
	},
	{
		"3132333435363738", "000000010000000000000001", "3031323334353637383961626364656630313233343536373839616263646567",
		"e5110720778656ac3ff3e46f87103a3b08291573a892dcf3ab29294f68ed625f", "be8dafb0",
	},
	{
		"3132333435363739", "000000010000000000000001", "3031323334353637383961626364656630313233343536373839616263646566",
		"a64add152355263709e173c439767315494a42cc57cb1a2d655e7807eb6559a8", "a2fe5c15",
	},
	{
		"0000000000000000", "000000000000000000000000", "0000000000000000000000000000000000000000000000000000000000000000",
		"2cac94e8a86b9cae0ff774bf1879dc279524da49599b67a89a0482a4dad1e613", "0b2e00db",
	},
	{
		"ffffffffffffffff", "ffffffffffffffffffffffff", "ffffffffffffffffffffffffffffffffffffffffffffffffffffffffffffffff",
		"9f3d7f9122913cdebb1fe8930cc3777d96474b3006769bf939076b2d78c47cde", "219ba7fc",
	},
	{
		"d32714fa6a075f90", "000000020003000000ffffff", "000102030405060708090a0b0c0d0e0f101112131415161718191a1b1c1d1e1f",
		"ef2263ebf33690863adca4cf41e2c3e8612a7f9c1cf9f970176278fefcc33900", "06efe0eb",
	},
	{
		"6b657920616e6420", "61206e6f6e6365206f663132", "612070616765206f6620612066696c652c203332206279746573206c6f6e672e",
		"1c0a6b8d763d32a3d2dbfc68e57e9d2f6e76a1d6bfee66a84f204c2663edba8d", "ce0e9092",
	},
}

// Lengths that none of a key, a nonce and a page has, beside those that another one of them has.
var (
	wrongKeyLengths   = []int{0, 1, 4, 7, 9, 12, 15, 16, 17, 32, 63, 64, 65, 200}
	wrongNonceLengths = []int{0, 1, 4, 8, 11, 13, 16, 24, 32, 200}
	wrongPageLengths  = []int{0, 1, 8, 12, 16, 30, 31, 33, 34, 48, 63, 64, 65, 4096, 4097, impl.MaxText + 1}
)

// sampleKeys differ in all bytes, in one bit, and in where the same bytes are.
func sampleKeys() []string {
	zero := strings.Repeat("\x00", 8)
	return []string{
		zero, strings.Repeat("\xff", 8), withBit(zero, 0, 128), withBit(zero, 7, 1), "12345678", "87654321",
		fileTag(secretDigest(1), "key", 2, 3), fileTag(secretDigest(2), "key", 2, 3), fileTag(secretDigest(1), "key", 3, 2),
	}
}

func sampleNonces() []string {
	zero := strings.Repeat("\x00", 12)
	return []string{
		zero, strings.Repeat("\xff", 12), withBit(zero, 0, 128), withBit(zero, 11, 1), "some nonce  ",
		"\x00\x00\x00\x01\x00\x00\x00\x00\x00\x00\x00\x01", "\x00\x00\x00\x01\x00\x01\x00\x00\x00\x00\x00\x01",
		"\x00\x00\x00\x02\x00\x00\x00\x00\x00\x00\x00\x01", "\x00\x00\x00\x01\x00\x00\x00\x00\x00\xff\xff\xff",
	}
}

func samplePageTexts() []string {
	zero := strings.Repeat("\x00", 32)
	return []string{zero, strings.Repeat("\xff", 32), withBit(zero, 0, 128), withBit(zero, 31, 1), textOf(32), "0123456789abcdef0123456789abcdef"}
}

// sealSamples are all sample keys with all sample nonces, each with one of the texts, and random ones.
func sealSamples() []sealSample {
	texts := samplePageTexts()
	samples := []sealSample{}
	for _, key := range sampleKeys() {
		for _, nonce := range sampleNonces() {
			samples = append(samples, sealSample{key, nonce, texts[len(samples)%len(texts)]})
		}
	}
	source := rand.New(rand.NewSource(9))
	for range 40 {
		samples = append(samples, sealSample{randomText(source, 8), randomText(source, 12), randomText(source, 32)})
	}
	return samples
}

// libraryMark computes the whole mark of which a tag is the start with the standard library.
func libraryMark(key string, nonce string, page string) string {
	return tagOf(tagOf(key, "mark")[:16], nonce+page)
}

// libraryPage seals a page with the standard library.
func libraryPage(t *testing.T, key string, nonce string, text string) (string, string) {
	t.Helper()
	page := bytesMixed(text, libraryStream(t, tagOf(key, "page")[:16], nonce, 32))
	return page, libraryMark(key, nonce, page)[:4]
}

func checkSealPage(t *testing.T, key string, nonce string, text string, wantPage string, wantMark string) {
	t.Helper()
	if page, mark := impl.SealPage(key, nonce, text); page != wantPage || mark != wantMark {
		t.Errorf("SealPage(%x, %x, %x): got %x, %x, want %x, %x", key, nonce, text, page, mark, wantPage, wantMark)
	}
}

func checkOpenPage(t *testing.T, key string, nonce string, page string, mark string, want string) {
	t.Helper()
	if got, ok := impl.OpenPage(key, nonce, page, mark); got != want || !ok {
		t.Errorf("OpenPage(%x, %x, %x, %x): got %x, %v, want %x, true", key, nonce, page, mark, got, ok, want)
	}
}

func checkNotOpened(t *testing.T, key string, nonce string, page string, mark string) {
	t.Helper()
	if got, ok := impl.OpenPage(key, nonce, page, mark); got != "" || ok {
		t.Errorf("OpenPage(%x, %x, %.80x, %x): got %x, %v, want \"\", false", key, nonce, page, mark, got, ok)
	}
}

func checkSealedTwice(t *testing.T, list []impl.Sealing, want bool) {
	t.Helper()
	if got := impl.SealedTwice(list); got != want {
		t.Errorf("SealedTwice(%.200q): got %v, want %v", list, got, want)
	}
}

func checkNoncesOf(t *testing.T, list []impl.Sealing, want []string) {
	t.Helper()
	if got := impl.NoncesOf(list); !slices.Equal(got, want) {
		t.Errorf("NoncesOf(%.200q): got %q, want %q", list, got, want)
	}
}

// checkNothingSealed takes arguments of which at least one has a wrong length. The tags are those that would be right
// if the lengths were not looked at; where SealPage gives "" and "", these are not a page and its tag.
func checkNothingSealed(t *testing.T, key string, nonce string, text string) {
	t.Helper()
	checkSealPage(t, key, nonce, text, "", "")
	for _, page := range []string{text, ""} {
		checkNotOpened(t, key, nonce, page, libraryMark(key, nonce, page)[:4])
		checkNotOpened(t, key, nonce, page, libraryMark(key, nonce, page))
		checkNotOpened(t, key, nonce, page, "")
	}
}

// sealedTwice compares every element with every other one, as the document words it.
func sealedTwice(list []impl.Sealing) bool {
	for _, a := range list {
		for _, b := range list {
			if a.Key == b.Key && a.Nonce == b.Nonce && a.Text != b.Text {
				return true
			}
		}
	}
	return false
}

// noncesOf keeps the elements that no earlier one equals.
func noncesOf(list []impl.Sealing) []string {
	nonces := []string{}
	for i, s := range list {
		earlier := func(other impl.Sealing) bool { return other.Nonce == s.Nonce }
		if !slices.ContainsFunc(list[:i], earlier) {
			nonces = append(nonces, s.Nonce)
		}
	}
	return nonces
}

// differentSealings have keys, nonces and texts that no other one of them has.
func differentSealings(n int) []impl.Sealing {
	list := []impl.Sealing{}
	for i := range n {
		number := strconv.Itoa(i)
		list = append(list, impl.Sealing{Key: "key " + number, Nonce: "nonce " + number, Text: "text " + number})
	}
	return list
}

// everyList calls check with all lists of up to most elements that can be made of the given ones.
func everyList[T any](elements []T, most int, check func(list []T)) {
	lists := [][]T{nil}
	for range most + 1 {
		longer := [][]T{}
		for _, list := range lists {
			check(list)
			for _, x := range elements {
				longer = append(longer, append(slices.Clone(list), x))
			}
		}
		lists = longer
	}
}

// smallSealings have fields that are empty or of one byte, so that the same ones come up often.
func smallSealings() []impl.Sealing {
	list := []impl.Sealing{}
	for _, key := range []string{"", "a"} {
		for _, nonce := range []string{"", "a"} {
			for _, text := range []string{"", "a"} {
				list = append(list, impl.Sealing{Key: key, Nonce: nonce, Text: text})
			}
		}
	}
	return list
}

func TestSealingConstants(t *testing.T) {
	if impl.PageSize != 32 || impl.MarkSize != 4 {
		t.Errorf("got PageSize %d and MarkSize %d, want 32 and 4", impl.PageSize, impl.MarkSize)
	}
}

func TestKnownPages(t *testing.T) {
	for _, c := range knownPages {
		key, nonce, text := unhexed(t, c.key), unhexed(t, c.nonce), unhexed(t, c.text)
		page, mark := unhexed(t, c.page), unhexed(t, c.mark)
		checkSealPage(t, key, nonce, text, page, mark)
		checkOpenPage(t, key, nonce, page, mark, text)
	}
}

func TestSealedPagesComputedAnew(t *testing.T) {
	for _, s := range sealSamples() {
		page, mark := libraryPage(t, s.key, s.nonce, s.text)
		checkSealPage(t, s.key, s.nonce, s.text, page, mark)
		checkOpenPage(t, s.key, s.nonce, page, mark, s.text)
	}
}

func TestSealedPagesAreStreamedAndMarked(t *testing.T) {
	for _, s := range sealSamples() {
		page := impl.Streamed(impl.PageKey(s.key), s.nonce, s.text)
		mark := impl.CutMark(impl.MarkKey(s.key), s.nonce+page, impl.MarkSize)
		checkSealPage(t, s.key, s.nonce, s.text, page, mark)
		checkOpenPage(t, s.key, s.nonce, page, mark, s.text)
	}
}

func TestSealedPagesAreOpened(t *testing.T) {
	for _, key := range sampleKeys() {
		for _, nonce := range sampleNonces() {
			for _, text := range samplePageTexts() {
				page, mark := impl.SealPage(key, nonce, text)
				if len(page) != impl.PageSize || len(mark) != impl.MarkSize || page == text {
					t.Errorf("SealPage(%x, %x, %x): got %x, %x", key, nonce, text, page, mark)
				}
				checkOpenPage(t, key, nonce, page, mark, text)
			}
		}
	}
}

func TestSealedPagesOfLaterCalls(t *testing.T) {
	s, other := sealSample{"12345678", "some nonce  ", textOf(32)}, sealSample{"87654321", "other nonce ", eachByteMixed(textOf(32), 1)}
	page, mark := libraryPage(t, s.key, s.nonce, s.text)
	otherPage, otherMark := libraryPage(t, other.key, other.nonce, other.text)
	for range 3 {
		checkSealPage(t, s.key, s.nonce, s.text, page, mark)
		checkNotOpened(t, s.key, s.nonce, page, otherMark)
		checkSealPage(t, other.key, other.nonce, other.text, otherPage, otherMark)
		checkOpenPage(t, s.key, s.nonce, page, mark, s.text)
		checkNotOpened(t, other.key, other.nonce, page, mark)
		checkOpenPage(t, other.key, other.nonce, otherPage, otherMark, other.text)
	}
}

// Any page of the right length is the ciphertext of some text, so that its own tag opens it.
func TestOpenPageOfAnyPage(t *testing.T) {
	source := rand.New(rand.NewSource(90))
	for range 60 {
		key, nonce, page := randomText(source, 8), randomText(source, 12), randomText(source, 32)
		mark := libraryMark(key, nonce, page)[:4]
		text := bytesMixed(page, libraryStream(t, tagOf(key, "page")[:16], nonce, 32))
		checkOpenPage(t, key, nonce, page, mark, text)
		checkSealPage(t, key, nonce, text, page, mark)
	}
}

func TestOpenPageWithAChangedTag(t *testing.T) {
	for _, s := range sealSamples() {
		page, mark := libraryPage(t, s.key, s.nonce, s.text)
		for at := range len(mark) {
			for bit := range 8 {
				checkNotOpened(t, s.key, s.nonce, page, withBit(mark, at, 1<<bit))
			}
			checkNotOpened(t, s.key, s.nonce, page, withBit(mark, at, 255))
		}
		checkOpenPage(t, s.key, s.nonce, page, mark, s.text)
	}
}

func TestOpenPageWithEveryOtherByteInATag(t *testing.T) {
	key, nonce, text := "12345678", "some nonce  ", textOf(32)
	page, mark := libraryPage(t, key, nonce, text)
	for at := range len(mark) {
		for change := 1; change < 256; change++ {
			checkNotOpened(t, key, nonce, page, withBit(mark, at, byte(change)))
		}
	}
}

// Two changes that would cancel each other out if the bytes were summed up, and bytes that change places.
func TestOpenPageWithTwoChangedBytesInATag(t *testing.T) {
	for _, s := range sealSamples()[:20] {
		page, mark := libraryPage(t, s.key, s.nonce, s.text)
		for one := range len(mark) {
			for two := range one {
				for bit := range 8 {
					checkNotOpened(t, s.key, s.nonce, page, withBit(withBit(mark, one, 1<<bit), two, 1<<bit))
				}
				swapped := []byte(mark)
				swapped[one], swapped[two] = swapped[two], swapped[one]
				if string(swapped) != mark {
					checkNotOpened(t, s.key, s.nonce, page, string(swapped))
				}
			}
		}
	}
}

// The tags agree with the right one as far as both go.
func TestOpenPageWithTagsOfOtherLengths(t *testing.T) {
	for _, s := range sealSamples() {
		page, mark := libraryPage(t, s.key, s.nonce, s.text)
		for length := range len(mark) {
			checkNotOpened(t, s.key, s.nonce, page, mark[:length])
			checkNotOpened(t, s.key, s.nonce, page, mark[len(mark)-length:])
		}
		whole := libraryMark(s.key, s.nonce, page)
		for length := 5; length <= len(whole); length++ {
			checkNotOpened(t, s.key, s.nonce, page, whole[:length])
		}
		for _, more := range []string{"\x00", "\xff", "a", mark, textOf(1000)} {
			checkNotOpened(t, s.key, s.nonce, page, mark+more)
			checkNotOpened(t, s.key, s.nonce, page, more+mark)
		}
	}
}

// Marks under another key or of other bytes are not the tag.
func TestOpenPageWithTagsOfSomethingElse(t *testing.T) {
	for _, s := range sealSamples() {
		page, _ := libraryPage(t, s.key, s.nonce, s.text)
		under := tagOf(s.key, "mark")[:16]
		for _, mark := range []string{
			tagOf(under, page), tagOf(under, s.nonce), tagOf(under, page+s.nonce), tagOf(under, s.nonce+s.text), tagOf(under, ""),
			tagOf(s.key, s.nonce+page), tagOf(tagOf(s.key, "page")[:16], s.nonce+page), tagOf(tagOf(s.key, "mark"), s.nonce+page),
			libraryMark(s.key, s.nonce, page)[4:], libraryMark(s.key, s.nonce, page)[28:], page, s.nonce, s.key, "\x00\x00\x00\x00", "\xff\xff\xff\xff",
		} {
			checkNotOpened(t, s.key, s.nonce, page, mark[:4])
		}
	}
}

func TestOpenPageOfAChangedPage(t *testing.T) {
	for _, s := range sealSamples()[:30] {
		page, mark := libraryPage(t, s.key, s.nonce, s.text)
		for at := range len(page) {
			for bit := range 8 {
				checkNotOpened(t, s.key, s.nonce, withBit(page, at, 1<<bit), mark)
			}
		}
		checkNotOpened(t, s.key, s.nonce, page[16:]+page[:16], mark)
		checkNotOpened(t, s.key, s.nonce, s.text, mark)
		checkNotOpened(t, s.key, s.nonce, strings.Repeat("\x00", 32), mark)
	}
}

func TestOpenPageUnderAChangedNonce(t *testing.T) {
	for _, s := range sealSamples()[:30] {
		page, mark := libraryPage(t, s.key, s.nonce, s.text)
		for at := range len(s.nonce) {
			for bit := range 8 {
				checkNotOpened(t, s.key, withBit(s.nonce, at, 1<<bit), page, mark)
			}
		}
	}
}

func TestOpenPageUnderAChangedKey(t *testing.T) {
	for _, s := range sealSamples()[:30] {
		page, mark := libraryPage(t, s.key, s.nonce, s.text)
		for at := range len(s.key) {
			for bit := range 8 {
				checkNotOpened(t, withBit(s.key, at, 1<<bit), s.nonce, page, mark)
			}
		}
	}
}

func TestOpenPageUnderItsOwnKeyAndNonceOnly(t *testing.T) {
	samples := sealSamples()
	for i, own := range samples {
		page, mark := libraryPage(t, own.key, own.nonce, own.text)
		for j, other := range samples {
			if j == i {
				checkOpenPage(t, own.key, own.nonce, page, mark, own.text)
				continue
			}
			checkNotOpened(t, other.key, other.nonce, page, mark)
			otherPage, otherMark := libraryPage(t, other.key, other.nonce, other.text)
			checkNotOpened(t, own.key, own.nonce, page, otherMark)
			checkNotOpened(t, own.key, own.nonce, otherPage, mark)
			checkNotOpened(t, own.key, own.nonce, otherPage, otherMark)
		}
	}
}

// The pages of files of several tenants, under the keys and nonces that the earlier chapters give them.
func TestOpenPageForItsOwnFilePageAndSerialOnly(t *testing.T) {
	type place struct{ tenant, inode, gen, page, serial int }
	places := []place{
		{0, 1, 1, 0, 1}, {1, 1, 1, 0, 1}, {0, 2, 1, 0, 1}, {0, 1, 2, 0, 1}, {0, 1, 1, 1, 1}, {0, 1, 1, 0, 2}, {0, 1, 1, 3, 16777215},
	}
	for _, own := range places {
		secret := impl.SecretOf(own.tenant)
		page, mark := impl.SealPage(impl.FileKey(secret, own.inode, own.gen), impl.NonceOf(own.inode, own.page, own.serial), textOf(32))
		for _, p := range places {
			key, nonce := impl.FileKey(impl.SecretOf(p.tenant), p.inode, p.gen), impl.NonceOf(p.inode, p.page, p.serial)
			if p == own {
				checkOpenPage(t, key, nonce, page, mark, textOf(32))
			} else {
				checkNotOpened(t, key, nonce, page, mark)
			}
		}
	}
}

func TestSealPageHidesTheText(t *testing.T) {
	seen := map[string]bool{}
	for _, key := range sampleKeys() {
		for _, nonce := range sampleNonces() {
			page, _ := impl.SealPage(key, nonce, textOf(32))
			if seen[page[:16]] || seen[page[16:]] || page[:16] == page[16:] {
				t.Errorf("SealPage(%x, %x): got %x, of which a part has come up before", key, nonce, page)
			}
			seen[page[:16]], seen[page[16:]] = true, true
		}
	}
}

func TestSealingWithKeysOfOtherLengths(t *testing.T) {
	for _, length := range wrongKeyLengths {
		for _, nonce := range sampleNonces() {
			checkNothingSealed(t, textOf(length), nonce, textOf(32))
			checkNothingSealed(t, strings.Repeat("\x00", length), nonce, textOf(32))
		}
	}
}

// HMAC extends a key with zero bytes, so that these keys have the same marks as the right one.
func TestSealingWithKeysThatOnlyHaveMoreZeros(t *testing.T) {
	page, mark := libraryPage(t, "1234567\x00", "some nonce  ", textOf(32))
	checkOpenPage(t, "1234567\x00", "some nonce  ", page, mark, textOf(32))
	for _, key := range []string{"1234567", "1234567\x00\x00", "1234567" + strings.Repeat("\x00", 57)} {
		checkSealPage(t, key, "some nonce  ", textOf(32), "", "")
		checkNotOpened(t, key, "some nonce  ", page, mark)
	}
}

func TestSealingWithNoncesOfOtherLengths(t *testing.T) {
	for _, length := range wrongNonceLengths {
		for _, key := range sampleKeys() {
			checkNothingSealed(t, key, textOf(length), textOf(32))
			checkNothingSealed(t, key, strings.Repeat("\x00", length), textOf(32))
		}
	}
}

func TestSealingOfTextsOfOtherLengths(t *testing.T) {
	for _, length := range wrongPageLengths {
		for _, key := range sampleKeys() {
			checkNothingSealed(t, key, "some nonce  ", textOf(length))
			checkNothingSealed(t, key, "some nonce  ", strings.Repeat("\x00", length))
		}
	}
}

func TestSealingWithSeveralWrongLengths(t *testing.T) {
	for _, key := range []int{0, 7, 8, 9} {
		for _, nonce := range []int{0, 11, 12, 13} {
			for _, text := range []int{0, 31, 32, 33} {
				if key != 8 || nonce != 12 || text != 32 {
					checkNothingSealed(t, textOf(key), textOf(nonce), textOf(text))
				}
			}
		}
	}
}

func TestOpenPageOfPartsOfAPage(t *testing.T) {
	for _, s := range sealSamples() {
		page, mark := libraryPage(t, s.key, s.nonce, s.text)
		for _, other := range []string{page[:31], page[1:], page[:16], page + "\x00", "\x00" + page, page + page} {
			checkNotOpened(t, s.key, s.nonce, other, mark)
		}
	}
}

// The tag covers the nonce and the page as one text, so that it stays the same where a byte moves between the two.
func TestOpenPageWhereTheNonceAndThePageShareTheirBytes(t *testing.T) {
	for _, s := range sealSamples() {
		page, mark := libraryPage(t, s.key, s.nonce, s.text)
		both := s.nonce + page
		for at := range len(both) + 1 {
			if at == 12 {
				checkOpenPage(t, s.key, both[:at], both[at:], mark, s.text)
			} else {
				checkNotOpened(t, s.key, both[:at], both[at:], mark)
			}
		}
	}
}

func TestSealedTwiceOfShortLists(t *testing.T) {
	one := impl.Sealing{Key: "key", Nonce: "nonce", Text: "text"}
	checkSealedTwice(t, nil, false)
	checkSealedTwice(t, []impl.Sealing{}, false)
	checkSealedTwice(t, []impl.Sealing{one}, false)
	checkSealedTwice(t, []impl.Sealing{{}}, false)
	checkSealedTwice(t, []impl.Sealing{one, one}, false)
	checkSealedTwice(t, []impl.Sealing{one, one, one}, false)
	checkSealedTwice(t, []impl.Sealing{{}, {}}, false)
}

// Texts that differ at their end, in their length only, and from an empty one, and the same under another key or nonce.
func TestSealedTwiceOfTwoElements(t *testing.T) {
	for _, texts := range [][2]string{{"text", "texs"}, {"text", "tex"}, {"text", "text\x00"}, {"", "text"}, {"", "\x00"}, {textOf(32), withBit(textOf(32), 0, 1)}} {
		for _, pair := range [][2]string{{"key", "nonce"}, {"", "nonce"}, {"key", ""}, {"", ""}, {textOf(8), textOf(12)}} {
			one := impl.Sealing{Key: pair[0], Nonce: pair[1], Text: texts[0]}
			other := impl.Sealing{Key: pair[0], Nonce: pair[1], Text: texts[1]}
			checkSealedTwice(t, []impl.Sealing{one, other}, true)
			checkSealedTwice(t, []impl.Sealing{other, one}, true)
			other.Nonce += "2"
			checkSealedTwice(t, []impl.Sealing{one, other}, false)
			other.Nonce, other.Key = pair[1], pair[0]+"2"
			checkSealedTwice(t, []impl.Sealing{one, other}, false)
		}
	}
}

func TestSealedTwiceNextToEachOtherAndFarApart(t *testing.T) {
	for _, length := range []int{2, 3, 10, 50} {
		for i := range length {
			for j := range i {
				list := differentSealings(length)
				list[j].Key, list[j].Nonce = list[i].Key, list[i].Nonce
				checkSealedTwice(t, list, true)
				list[j].Text = list[i].Text
				checkSealedTwice(t, list, false)
			}
		}
	}
	list := differentSealings(3000)
	checkSealedTwice(t, list, false)
	checkSealedTwice(t, append(list, impl.Sealing{Key: list[0].Key, Nonce: list[0].Nonce, Text: "another"}), true)
}

// The first two, or the last two, of the elements with the same key and nonce have the same text.
func TestSealedTwiceAmongEqualElements(t *testing.T) {
	same, other := impl.Sealing{Key: "key", Nonce: "nonce", Text: "text"}, impl.Sealing{Key: "key", Nonce: "nonce", Text: "other"}
	checkSealedTwice(t, []impl.Sealing{same, same, other}, true)
	checkSealedTwice(t, []impl.Sealing{same, other, same}, true)
	checkSealedTwice(t, []impl.Sealing{other, same, same}, true)
	checkSealedTwice(t, append(slices.Repeat([]impl.Sealing{same}, 100), other), true)
	checkSealedTwice(t, slices.Repeat([]impl.Sealing{same}, 100), false)
}

func TestSealedTwiceWithTheSameKeyOrTheSameNonceOnly(t *testing.T) {
	list := differentSealings(40)
	for i := range list {
		list[i].Key = "the same key"
	}
	checkSealedTwice(t, list, false)
	list = differentSealings(40)
	for i := range list {
		list[i].Nonce = "the same nonce"
	}
	checkSealedTwice(t, list, false)
}

// Keys and nonces that are the same if they are joined, with or without something in between, or changed over.
func TestSealedTwiceWithKeysAndNoncesThatShareTheirBytes(t *testing.T) {
	for _, between := range []string{"", "\x00", " ", "/", ":", "|", ",", "\xff", "\x00\x00"} {
		pieces := []string{"a", "b", "c", "d"}
		list := []impl.Sealing{}
		for at := range len(pieces) + 1 {
			key, nonce := strings.Join(pieces[:at], between), strings.Join(pieces[at:], between)
			list = append(list, impl.Sealing{Key: key, Nonce: nonce, Text: strconv.Itoa(at)})
			checkSealedTwice(t, list, false)
		}
		checkSealedTwice(t, append(list, impl.Sealing{Key: list[2].Key, Nonce: list[2].Nonce, Text: "5"}), true)
	}
	checkSealedTwice(t, []impl.Sealing{{Key: "a", Nonce: "b", Text: "1"}, {Key: "b", Nonce: "a", Text: "2"}}, false)
}

func TestSealedTwiceOfEverySmallList(t *testing.T) {
	everyList(smallSealings(), 4, func(list []impl.Sealing) {
		checkSealedTwice(t, list, sealedTwice(list))
	})
}

func TestSealedTwiceOfSealedPages(t *testing.T) {
	list := []impl.Sealing{}
	for _, s := range sealSamples() {
		list = append(list, impl.Sealing{Key: s.key, Nonce: s.nonce, Text: s.text})
		checkSealedTwice(t, list, false)
	}
	for _, s := range sealSamples() {
		checkSealedTwice(t, append(list, impl.Sealing{Key: s.key, Nonce: s.nonce, Text: withBit(s.text, 31, 1)}), true)
	}
}

func TestNoncesOfShortLists(t *testing.T) {
	checkNoncesOf(t, nil, nil)
	checkNoncesOf(t, []impl.Sealing{}, nil)
	checkNoncesOf(t, []impl.Sealing{{}}, []string{""})
	checkNoncesOf(t, []impl.Sealing{{}, {}}, []string{""})
	checkNoncesOf(t, []impl.Sealing{{Key: "key", Nonce: "nonce", Text: "text"}}, []string{"nonce"})
}

func TestNoncesOfRepeatedNonces(t *testing.T) {
	for _, c := range []struct{ given, want []string }{
		{[]string{"b", "a"}, []string{"b", "a"}},
		{[]string{"b", "a", "b"}, []string{"b", "a"}},
		{[]string{"b", "b", "a"}, []string{"b", "a"}},
		{[]string{"a", "b", "b", "c", "a", "b"}, []string{"a", "b", "c"}},
		{[]string{"", "a", ""}, []string{"", "a"}},
		{[]string{"a", "", "a", ""}, []string{"a", ""}},
		{[]string{"a", "a\x00", "\x00a", "\x00", "", "a"}, []string{"a", "a\x00", "\x00a", "\x00", ""}},
		{[]string{"aa", "a", "A", "aa"}, []string{"aa", "a", "A"}},
	} {
		list := []impl.Sealing{}
		for i, nonce := range c.given {
			list = append(list, impl.Sealing{Key: strconv.Itoa(i), Nonce: nonce, Text: strconv.Itoa(i)})
		}
		checkNoncesOf(t, list, c.want)
	}
}

func TestNoncesOfManyElements(t *testing.T) {
	list, want := []impl.Sealing{}, []string{}
	for i := range 2000 {
		list = append(list, impl.Sealing{Key: "key", Nonce: strconv.Itoa(i * 7919 % 500), Text: strconv.Itoa(i)})
		if i < 500 {
			want = append(want, list[i].Nonce)
		}
	}
	checkNoncesOf(t, list, want)
	for range 5 {
		checkNoncesOf(t, list[:100], want[:100])
	}
}

func TestNoncesOfEverySmallList(t *testing.T) {
	elements := []impl.Sealing{{Nonce: "b"}, {Nonce: "a", Key: "k"}, {Nonce: "a", Text: "t"}, {}, {Key: "k"}, {Nonce: "c"}}
	everyList(elements, 4, func(list []impl.Sealing) {
		checkNoncesOf(t, list, noncesOf(list))
	})
}

// A nonce that only the key or the text tells apart is still the same nonce.
func TestNoncesOfSealedPages(t *testing.T) {
	list := []impl.Sealing{}
	for _, key := range sampleKeys() {
		for _, nonce := range sampleNonces() {
			list = append(list, impl.Sealing{Key: key, Nonce: nonce, Text: textOf(32)})
		}
	}
	checkNoncesOf(t, list, sampleNonces())
}

func TestListsOfSealingsAreLeftAsTheyAre(t *testing.T) {
	whole := append(differentSealings(6), differentSealings(6)...)
	before := slices.Clone(whole)
	list := whole[2:8]
	checkSealedTwice(t, list, false)
	nonces := impl.NoncesOf(list)
	for i := range nonces {
		nonces[i] = "changed"
	}
	_ = append(nonces, "more")
	if !slices.Equal(whole, before) {
		t.Errorf("got %q, want %q", whole, before)
	}
	checkNoncesOf(t, list, noncesOf(before[2:8]))
}
