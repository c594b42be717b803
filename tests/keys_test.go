package tests

import (
	"crypto/sha256"
	"math"
	"math/rand"
	"strconv"
	"strings"
	"testing"

	"loop.example/g00969/impl"
)

// knownSecrets are written out, so that the sign and the digits of the number are checked without any other code.
var knownSecrets = []struct {
	tenant int
	digits string
}{
	{0, "139795a7241e72de9d3e296e0e45b1d0"},
	{1, "45b3e9dd6490eac7a8566680e1e930fb"},
	{2, "0419236116e37afe6e5ea740eca9fa08"},
	{7, "b1b7b32d9d240ff3bfcdce6b5aaaf898"},
	{10, "ffa08f014daf10338db67ffe012a13dd"},
	{255, "31940859fe62eadf26bc05ebf2dcf62c"},
	{1000000000, "0bac76ef37c5be4e6cf6b8e712e154f8"},
	{math.MaxInt, "4c3cf614e56571ca13d8ae2204d5d50e"},
	{-1, "0a96abb33b07ff0e8f48bcc4893e0e73"},
	{math.MinInt, "f8518958900adcc43d2c6622595c99e7"},
}

// knownKeys are those of files of the tenants of knownSecrets; page and mark are derived from key.
var knownKeys = []struct {
	tenant, inode, gen             int
	key, mask, wrapped, page, mark string
}{
	{
		0, 0, 0, "79097fa76e5d01d2", "7a727ec76439db2b", "037b01600a64daf9",
		"dca33c16d0ceb85f88b2f0fef26de231", "d0e7820afb8251f3e39a931f1ec1b468",
	},
	{
		1, 2, 3, "d32714fa6a075f90", "0d14ae04b7dac78b", "de33bafedddd981b",
		"37861de1031b45c996d032b27f6f5158", "ec63d382b8859738e15566124f9e8c37",
	},
	{
		1, 3, 2, "9ac0a743c890a9a0", "ab3bcfc0d5c77fb2", "31fb68831d57d612",
		"ba034052b88b4c595708008b1f598154", "d60b92e97d76b31bc1831f0a96a3a518",
	},
	{
		1, 255, 65535, "d5d9eae6ab90d663", "51de8f8a1e6fb3b7", "8407656cb5ff65d4",
		"ecee57dda4d8dbf9b2f697d6c1e18d9b", "f65c793589c92181a2700ab324037354",
	},
	{
		2, 0, 1, "c7dbcb7b8ae50411", "11ed25c011b588c9", "d636eebb9b508cd8",
		"e67c65c9445e32198d3bb09851654518", "02c8818b3192d176d82e8995a6eae248",
	},
	{
		2, 1, 0, "89f1ddfbfc7a7ddb", "8e03e2971a322705", "07f23f6ce6485ade",
		"dceb87ab6ccc732544f55caada40d50e", "6c7c82d937573400f6807305d2000d79",
	},
	{
		2, 1, 256, "fdeb93c9c6184072", "8604bd016691c43c", "7bef2ec8a089844e",
		"cb4bd60da9f0c62e6162c7943cab010e", "357f885c71c975dbe2d33fb3950002be",
	},
	{
		-1, 1, 258, "93444c37d70510fd", "b817f57e34345b4e", "2b53b949e3314bb3",
		"ab86f78edd156b59c9f948a4de8b69a4", "efd24ab04bb110dbbf9c9f76070a15fc",
	},
}

// The largest numbers that fit in the one byte of an inode and the two bytes of a gen.
const (
	mostInode = 255
	mostGen   = 65535
)

var (
	sampleInodes = []int{0, 1, 2, 7, 127, 128, 254, 255}
	sampleGens   = []int{0, 1, 2, 254, 255, 256, 257, 258, 513, 32767, 32768, 65279, 65280, 65534, 65535}
)

// The numbers below the range, those just above it, and those whose last bytes would fit.
var (
	wrongInodes = []int{-1, -2, -255, -256, -257, -65536, -1 << 32, math.MinInt, math.MinInt + 1, 256, 257, 258, 511, 512, 65535, 65536, 1 << 32, 1<<32 + 1, 1 << 62, math.MaxInt}
	wrongGens   = []int{-1, -2, -255, -256, -65535, -65536, -65537, -1 << 32, math.MinInt, math.MinInt + 1, 65536, 65537, 65539, 131071, 131072, 1 << 24, 1 << 32, 1<<32 + 1, 1 << 62, math.MaxInt}
)

// sampleSecrets are those of tenants, others of the same length, and others of the lengths around that of a block.
func sampleSecrets() []string {
	secrets := []string{}
	for _, tenant := range []int{0, 1, 2, 7, 255, -1} {
		secrets = append(secrets, secretDigest(tenant))
	}
	secrets = append(secrets, "0123456789abcdef", strings.Repeat("\xff", 16), withBit(secretDigest(1), 0, 128), withBit(secretDigest(1), 15, 1))
	for _, length := range []int{0, 8, 15, 17, 32, 63, 64, 65, 200} {
		secrets = append(secrets, textOf(length))
	}
	return secrets
}

// secretDigest computes a tenant's secret with the standard library.
func secretDigest(tenant int) string {
	digest := sha256.Sum256([]byte("tenant" + strconv.Itoa(tenant)))
	return string(digest[:16])
}

// fileTag computes a file key (for the word "key") or its mask (for "wrap") with the standard library.
func fileTag(secret string, word string, inode int, gen int) string {
	return tagOf(secret, word+encodedNumber(inode, 1)+encodedNumber(gen, 2))[:8]
}

// bytesMixed is the exclusive or of two texts of the same length.
func bytesMixed(a string, b string) string {
	mixed := []byte(a)
	for i := range mixed {
		mixed[i] ^= b[i]
	}
	return string(mixed)
}

// sampleFile is an inode with its gen.
type sampleFile struct{ inode, gen int }

// sampleFiles are files that differ in the inode, in the gen, in both, and in which of the two has a number.
func sampleFiles() []sampleFile {
	return []sampleFile{
		{0, 0}, {0, 1}, {1, 0}, {1, 1}, {1, 2}, {2, 1}, {2, 3}, {3, 2}, {0, 256}, {1, 256}, {1, 257}, {1, 258}, {2, 257},
		{254, 65535}, {255, 0}, {0, 255}, {255, 255}, {255, 65534}, {255, 65535}, {0, 65535}, {0, 65280}, {128, 32768},
	}
}

func checkSecretOf(t *testing.T, tenant int, want string) {
	t.Helper()
	if got := impl.SecretOf(tenant); got != want {
		t.Errorf("SecretOf(%d): got %x, want %x", tenant, got, want)
	}
}

func checkFileKey(t *testing.T, secret string, inode int, gen int, want string) {
	t.Helper()
	if got := impl.FileKey(secret, inode, gen); got != want {
		t.Errorf("FileKey(%x, %d, %d): got %x, want %x", secret, inode, gen, got, want)
	}
}

func checkWrapMask(t *testing.T, secret string, inode int, gen int, want string) {
	t.Helper()
	if got := impl.WrapMask(secret, inode, gen); got != want {
		t.Errorf("WrapMask(%x, %d, %d): got %x, want %x", secret, inode, gen, got, want)
	}
}

func checkWrapped(t *testing.T, secret string, inode int, gen int, want string) {
	t.Helper()
	if got := impl.Wrapped(secret, inode, gen); got != want {
		t.Errorf("Wrapped(%x, %d, %d): got %x, want %x", secret, inode, gen, got, want)
	}
}

func checkUnwrapped(t *testing.T, secret string, inode int, gen int, text string, want string) {
	t.Helper()
	if got, ok := impl.Unwrapped(secret, inode, gen, text); got != want || !ok {
		t.Errorf("Unwrapped(%x, %d, %d, %x): got %x, %v, want %x, true", secret, inode, gen, text, got, ok, want)
	}
}

func checkNotUnwrapped(t *testing.T, secret string, inode int, gen int, text string) {
	t.Helper()
	if got, ok := impl.Unwrapped(secret, inode, gen, text); got != "" || ok {
		t.Errorf("Unwrapped(%x, %d, %d, %x): got %x, %v, want \"\", false", secret, inode, gen, text, got, ok)
	}
}

func checkPageKey(t *testing.T, key string, want string) {
	t.Helper()
	if got := impl.PageKey(key); got != want {
		t.Errorf("PageKey(%x): got %x, want %x", key, got, want)
	}
}

func checkMarkKey(t *testing.T, key string, want string) {
	t.Helper()
	if got := impl.MarkKey(key); got != want {
		t.Errorf("MarkKey(%x): got %x, want %x", key, got, want)
	}
}

// checkKeysOf compares everything that belongs to a file with what the standard library computes.
func checkKeysOf(t *testing.T, secret string, inode int, gen int) {
	t.Helper()
	key, mask := fileTag(secret, "key", inode, gen), fileTag(secret, "wrap", inode, gen)
	checkFileKey(t, secret, inode, gen, key)
	checkWrapMask(t, secret, inode, gen, mask)
	checkWrapped(t, secret, inode, gen, bytesMixed(key, mask))
	checkUnwrapped(t, secret, inode, gen, bytesMixed(key, mask), key)
	checkUnwrapped(t, secret, inode, gen, impl.Wrapped(secret, inode, gen), key)
}

// checkNoKeysOf takes an inode or a gen that does not fit.
func checkNoKeysOf(t *testing.T, secret string, inode int, gen int) {
	t.Helper()
	checkFileKey(t, secret, inode, gen, "")
	checkWrapMask(t, secret, inode, gen, "")
	checkWrapped(t, secret, inode, gen, "")
	for _, text := range textsWithoutAFile(secret, inode, gen) {
		checkNotUnwrapped(t, secret, inode, gen, text)
	}
}

// textsWithoutAFile are texts that would be accepted if a number that does not fit were left out or cut to its last
// bytes, and texts that are nobody's.
func textsWithoutAFile(secret string, inode int, gen int) []string {
	texts := []string{"", "a", textOf(7), textOf(8), textOf(9), strings.Repeat("\x00", 8), strings.Repeat("\xff", 8)}
	short, long := encodedNumber(inode, 1), encodedNumber(gen, 2)
	for _, rest := range []string{"", short, long, short + long} {
		texts = append(texts, bytesMixed(tagOf(secret, "key"+rest)[:8], tagOf(secret, "wrap"+rest)[:8]))
	}
	return texts
}

func TestKeyConstants(t *testing.T) {
	if impl.KeySize != 8 {
		t.Errorf("got KeySize %d, want 8", impl.KeySize)
	}
}

func TestKnownSecrets(t *testing.T) {
	for _, c := range knownSecrets {
		checkSecretOf(t, c.tenant, unhexed(t, c.digits))
	}
}

func TestSecretsOfManyTenants(t *testing.T) {
	for tenant := -300; tenant <= 300; tenant++ {
		checkSecretOf(t, tenant, secretDigest(tenant))
	}
	for shift := range 63 {
		for _, tenant := range []int{1<<shift - 1, 1 << shift, -1 << shift, -1<<shift + 1} {
			checkSecretOf(t, tenant, secretDigest(tenant))
		}
	}
	for _, tenant := range []int{impl.MaxNumber - 1, impl.MaxNumber, impl.MaxNumber + 1, math.MaxInt, math.MinInt} {
		checkSecretOf(t, tenant, secretDigest(tenant))
	}
}

func TestSecretOfIsTheStartOfADigest(t *testing.T) {
	for _, tenant := range []int{0, 1, 9, 10, 255, 256, -1, -10, math.MaxInt, math.MinInt} {
		checkSecretOf(t, tenant, impl.CutDigest("tenant"+impl.Decimal(tenant), 16))
	}
}

func TestSecretsOfOtherTenantsDiffer(t *testing.T) {
	seen := map[string]int{}
	for tenant := -200; tenant <= 2000; tenant++ {
		secret := impl.SecretOf(tenant)
		if other, ok := seen[secret]; ok {
			t.Errorf("SecretOf(%d): got %x, also the secret of %d", tenant, secret, other)
		}
		seen[secret] = tenant
	}
}

func TestKnownKeys(t *testing.T) {
	for _, c := range knownKeys {
		secret := impl.SecretOf(c.tenant)
		key := unhexed(t, c.key)
		checkFileKey(t, secret, c.inode, c.gen, key)
		checkWrapMask(t, secret, c.inode, c.gen, unhexed(t, c.mask))
		checkWrapped(t, secret, c.inode, c.gen, unhexed(t, c.wrapped))
		checkUnwrapped(t, secret, c.inode, c.gen, unhexed(t, c.wrapped), key)
		checkPageKey(t, key, unhexed(t, c.page))
		checkMarkKey(t, key, unhexed(t, c.mark))
	}
}

func TestKeysAtTheEndsOfTheRanges(t *testing.T) {
	for _, secret := range sampleSecrets() {
		for _, inode := range []int{0, 1, mostInode - 1, mostInode} {
			for _, gen := range []int{0, 1, mostGen - 1, mostGen} {
				checkKeysOf(t, secret, inode, gen)
			}
		}
	}
}

func TestKeysOfSampleFiles(t *testing.T) {
	for _, secret := range sampleSecrets()[:4] {
		for _, inode := range sampleInodes {
			for _, gen := range sampleGens {
				checkKeysOf(t, secret, inode, gen)
			}
		}
	}
}

func TestKeysOfEveryInodeAndOfManyGens(t *testing.T) {
	secret := impl.SecretOf(3)
	for inode := range mostInode + 1 {
		checkKeysOf(t, secret, inode, 258)
	}
	for _, gen := range numbersOf(2) {
		checkKeysOf(t, secret, 7, gen)
	}
	source := rand.New(rand.NewSource(8))
	for range 300 {
		checkKeysOf(t, randomText(source, 16), source.Intn(mostInode+1), source.Intn(mostGen+1))
	}
}

func TestKeysAreTheStartsOfMarks(t *testing.T) {
	secret := impl.SecretOf(1)
	for _, f := range sampleFiles() {
		numbers := impl.NumText(f.inode, 1) + impl.NumText(f.gen, 2)
		checkFileKey(t, secret, f.inode, f.gen, impl.CutMark(secret, "key"+numbers, impl.KeySize))
		checkWrapMask(t, secret, f.inode, f.gen, impl.CutMark(secret, "wrap"+numbers, impl.KeySize))
		key := impl.FileKey(secret, f.inode, f.gen)
		checkPageKey(t, key, impl.CutMark(key, "page", impl.BlockKey))
		checkMarkKey(t, key, impl.CutMark(key, "mark", impl.BlockKey))
	}
}

// The keys of later calls do not depend on those of earlier ones.
func TestKeysOfTheSameArgumentsAreTheSame(t *testing.T) {
	for _, f := range sampleFiles() {
		secret := impl.SecretOf(f.inode)
		key, mask, wrapped := impl.FileKey(secret, f.inode, f.gen), impl.WrapMask(secret, f.inode, f.gen), impl.Wrapped(secret, f.inode, f.gen)
		page, mark := impl.PageKey(key), impl.MarkKey(key)
		for range 3 {
			checkSecretOf(t, f.inode, secret)
			checkFileKey(t, secret, f.inode, f.gen, key)
			checkWrapMask(t, secret, f.inode, f.gen, mask)
			checkWrapped(t, secret, f.inode, f.gen, wrapped)
			checkNotUnwrapped(t, secret, f.inode, f.gen, mask)
			checkUnwrapped(t, secret, f.inode, f.gen, wrapped, key)
			checkPageKey(t, key, page)
			checkMarkKey(t, key, mark)
		}
	}
}

// No file shares its key, its mask or its wrapped key with another file, with another secret or with each other.
func TestKeysOfOtherFilesDiffer(t *testing.T) {
	seen := map[string]string{}
	note := func(text string, name string) {
		if other, ok := seen[text]; ok {
			t.Errorf("%s: got %x, also that of %s", name, text, other)
		}
		seen[text] = name
	}
	for k, secret := range sampleSecrets() {
		for _, f := range sampleFiles() {
			name := " of secret " + strconv.Itoa(k) + ", inode " + strconv.Itoa(f.inode) + ", gen " + strconv.Itoa(f.gen)
			key := impl.FileKey(secret, f.inode, f.gen)
			note(key, "the key"+name)
			note(impl.WrapMask(secret, f.inode, f.gen), "the mask"+name)
			note(impl.Wrapped(secret, f.inode, f.gen), "the wrapped key"+name)
			note(impl.PageKey(key), "the page key"+name)
			note(impl.MarkKey(key), "the mark key"+name)
		}
	}
}

func TestUnwrappedForItsOwnFileOnly(t *testing.T) {
	files := sampleFiles()
	for _, secret := range sampleSecrets()[:3] {
		for _, own := range files {
			wrapped := impl.Wrapped(secret, own.inode, own.gen)
			for _, f := range files {
				if f == own {
					checkUnwrapped(t, secret, f.inode, f.gen, wrapped, fileTag(secret, "key", f.inode, f.gen))
				} else {
					checkNotUnwrapped(t, secret, f.inode, f.gen, wrapped)
				}
			}
		}
	}
}

func TestUnwrappedForEveryOtherInodeAndNearbyGen(t *testing.T) {
	secret := impl.SecretOf(1)
	wrapped := impl.Wrapped(secret, 2, 3)
	for inode := range mostInode + 1 {
		if inode != 2 {
			checkNotUnwrapped(t, secret, inode, 3, wrapped)
		}
	}
	for gen := range 1000 {
		if gen != 3 {
			checkNotUnwrapped(t, secret, 2, gen, wrapped)
		}
	}
	for _, gen := range []int{3 + 256, 3 << 8, 32768 + 3, mostGen - 3, mostGen} {
		checkNotUnwrapped(t, secret, 2, gen, wrapped)
	}
	checkUnwrapped(t, secret, 2, 3, wrapped, fileTag(secret, "key", 2, 3))
}

func TestUnwrappedUnderItsOwnSecretOnly(t *testing.T) {
	secrets := sampleSecrets()
	for _, f := range sampleFiles() {
		for k, own := range secrets {
			wrapped := impl.Wrapped(own, f.inode, f.gen)
			for other, secret := range secrets {
				if other == k {
					checkUnwrapped(t, secret, f.inode, f.gen, wrapped, fileTag(own, "key", f.inode, f.gen))
				} else {
					checkNotUnwrapped(t, secret, f.inode, f.gen, wrapped)
				}
			}
		}
	}
}

func TestUnwrappedForAnotherTenant(t *testing.T) {
	for tenant := -5; tenant <= 20; tenant++ {
		wrapped := impl.Wrapped(impl.SecretOf(tenant), 1, 1)
		for other := -5; other <= 20; other++ {
			if other != tenant {
				checkNotUnwrapped(t, impl.SecretOf(other), 1, 1, wrapped)
			}
		}
		checkUnwrapped(t, impl.SecretOf(tenant), 1, 1, wrapped, fileTag(secretDigest(tenant), "key", 1, 1))
	}
}

func TestUnwrappedWithAChangedByte(t *testing.T) {
	for _, secret := range sampleSecrets()[:4] {
		for _, f := range sampleFiles() {
			wrapped := impl.Wrapped(secret, f.inode, f.gen)
			if len(wrapped) != impl.KeySize {
				t.Fatalf("Wrapped(%x, %d, %d): got %x", secret, f.inode, f.gen, wrapped)
			}
			for at := range len(wrapped) {
				for bit := range 8 {
					checkNotUnwrapped(t, secret, f.inode, f.gen, withBit(wrapped, at, 1<<bit))
				}
				checkNotUnwrapped(t, secret, f.inode, f.gen, withBit(wrapped, at, 255))
			}
		}
	}
}

// Two changes that would cancel each other out if the bytes were summed up.
func TestUnwrappedWithTwoChangedBytes(t *testing.T) {
	secret := impl.SecretOf(1)
	wrapped := bytesMixed(fileTag(secret, "key", 5, 6), fileTag(secret, "wrap", 5, 6))
	for one := range 8 {
		for two := range one {
			for bit := range 8 {
				checkNotUnwrapped(t, secret, 5, 6, withBit(withBit(wrapped, one, 1<<bit), two, 1<<bit))
			}
		}
	}
	checkUnwrapped(t, secret, 5, 6, wrapped, fileTag(secret, "key", 5, 6))
}

func TestUnwrappedWithOtherTexts(t *testing.T) {
	for _, secret := range sampleSecrets() {
		for _, f := range sampleFiles() {
			key, mask := fileTag(secret, "key", f.inode, f.gen), fileTag(secret, "wrap", f.inode, f.gen)
			for _, text := range []string{key, mask, strings.Repeat("\x00", 8), strings.Repeat("\xff", 8), "some key"} {
				checkNotUnwrapped(t, secret, f.inode, f.gen, text)
			}
		}
	}
}

// The texts agree with the wrapped key as far as both go.
func TestUnwrappedWithTextsOfOtherLengths(t *testing.T) {
	for _, secret := range sampleSecrets()[:4] {
		for _, f := range sampleFiles() {
			wrapped := impl.Wrapped(secret, f.inode, f.gen)
			if len(wrapped) != impl.KeySize {
				t.Fatalf("Wrapped(%x, %d, %d): got %x", secret, f.inode, f.gen, wrapped)
			}
			for length := range impl.KeySize {
				checkNotUnwrapped(t, secret, f.inode, f.gen, wrapped[:length])
				checkNotUnwrapped(t, secret, f.inode, f.gen, wrapped[impl.KeySize-length:])
			}
			for _, more := range []string{"\x00", "\xff", "a", strings.Repeat("\x00", 8), wrapped, textOf(impl.MaxText)} {
				checkNotUnwrapped(t, secret, f.inode, f.gen, wrapped+more)
				checkNotUnwrapped(t, secret, f.inode, f.gen, more+wrapped)
			}
			checkNotUnwrapped(t, secret, f.inode, f.gen, textOf(7))
			checkNotUnwrapped(t, secret, f.inode, f.gen, textOf(9))
		}
	}
}

func TestUnwrappedWithAnEmptyText(t *testing.T) {
	for _, secret := range sampleSecrets() {
		for _, f := range sampleFiles() {
			checkNotUnwrapped(t, secret, f.inode, f.gen, "")
		}
	}
}

// Both the text and the key of such a file are empty, and still there is nothing to unwrap.
func TestUnwrappedWithAnEmptyTextAndNumbersThatDoNotFit(t *testing.T) {
	for _, secret := range sampleSecrets() {
		for _, inode := range wrongInodes {
			checkNotUnwrapped(t, secret, inode, 0, "")
			checkNotUnwrapped(t, secret, inode, mostGen, "")
			checkNotUnwrapped(t, secret, inode, mostGen+1, "")
			checkNotUnwrapped(t, secret, inode, -1, "")
		}
		for _, gen := range wrongGens {
			checkNotUnwrapped(t, secret, 0, gen, "")
			checkNotUnwrapped(t, secret, mostInode, gen, "")
		}
	}
}

func TestKeysOfInodesThatDoNotFit(t *testing.T) {
	for _, secret := range sampleSecrets() {
		for _, inode := range wrongInodes {
			for _, gen := range []int{0, 1, 255, 256, mostGen} {
				checkNoKeysOf(t, secret, inode, gen)
			}
		}
	}
}

func TestKeysOfGensThatDoNotFit(t *testing.T) {
	for _, secret := range sampleSecrets() {
		for _, gen := range wrongGens {
			for _, inode := range []int{0, 1, 127, mostInode} {
				checkNoKeysOf(t, secret, inode, gen)
			}
		}
	}
}

func TestKeysOfInodesAndGensThatDoNotFit(t *testing.T) {
	for _, secret := range sampleSecrets()[:3] {
		for _, inode := range wrongInodes {
			for _, gen := range wrongGens {
				checkNoKeysOf(t, secret, inode, gen)
			}
		}
	}
}

// A wrapped key does not become that of a file whose number ends in the same bytes.
func TestUnwrappedForNumbersWithTheSameLastBytes(t *testing.T) {
	secret := impl.SecretOf(1)
	wrapped := impl.Wrapped(secret, 2, 3)
	for _, more := range []int{256, 512, 65536, 1 << 32, 1 << 62, -256, -65536, math.MinInt} {
		checkNotUnwrapped(t, secret, 2+more, 3, wrapped)
	}
	for _, more := range []int{65536, 131072, 1 << 24, 1 << 32, 1 << 62, -65536, math.MinInt} {
		checkNotUnwrapped(t, secret, 2, 3+more, wrapped)
	}
	checkUnwrapped(t, secret, 2, 3, wrapped, fileTag(secret, "key", 2, 3))
}

func TestPageKeyAndMarkKeyOfManyKeys(t *testing.T) {
	keys := append([]string{"", "a", strings.Repeat("\x00", 8), strings.Repeat("\xff", 8), textOf(1000)}, sampleSecrets()...)
	for length := range 70 {
		keys = append(keys, textOf(length))
	}
	for _, f := range sampleFiles() {
		keys = append(keys, impl.FileKey(impl.SecretOf(1), f.inode, f.gen))
	}
	for _, key := range keys {
		checkPageKey(t, key, tagOf(key, "page")[:16])
		checkMarkKey(t, key, tagOf(key, "mark")[:16])
		if impl.PageKey(key) == impl.MarkKey(key) {
			t.Errorf("PageKey(%x) is MarkKey: %x", key, impl.PageKey(key))
		}
	}
}

// The page key that a wrapped key leads to encrypts the pages of its file, so it is a key of the cipher.
func TestPageKeyIsAKeyOfTheCipher(t *testing.T) {
	secret := impl.SecretOf(1)
	for _, f := range sampleFiles() {
		key, ok := impl.Unwrapped(secret, f.inode, f.gen, impl.Wrapped(secret, f.inode, f.gen))
		if !ok || len(impl.PageKey(key)) != impl.BlockKey || len(impl.MarkKey(key)) != impl.BlockKey {
			t.Errorf("inode %d, gen %d: page key %x, mark key %x", f.inode, f.gen, impl.PageKey(key), impl.MarkKey(key))
		}
		checkComesBack(t, impl.PageKey(key), impl.NonceOf(f.inode, 0, 1), "the text of a page of this file.")
	}
}
