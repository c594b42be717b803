package tests

import (
	"crypto/aes"
	"encoding/hex"
	"math/rand"
	"slices"
	"strings"
	"testing"

	"loop.example/g00969/impl"
)

const (
	zeroDigits = "00000000000000000000000000000000"
	fullDigits = "ffffffffffffffffffffffffffffffff"
)

// The keys of the two examples of the standard of AES; the first is also that of the examples of modes of operation.
const (
	firstKeyDigits  = "2b7e151628aed2a6abf7158809cf4f3c"
	secondKeyDigits = "000102030405060708090a0b0c0d0e0f"
)

// knownBlocks are from the standard of AES, from the examples of modes of operation, and from the known answer tests of AES.
var knownBlocks = []struct{ key, block, want string }{
	{firstKeyDigits, "3243f6a8885a308d313198a2e0370734", "3925841d02dc09fbdc118597196a0b32"},
	{secondKeyDigits, "00112233445566778899aabbccddeeff", "69c4e0d86a7b0430d8cdb78070b4c55a"},
	{firstKeyDigits, "6bc1bee22e409f96e93d7e117393172a", "3ad77bb40d7a3660a89ecaf32466ef97"},
	{firstKeyDigits, "ae2d8a571e03ac9c9eb76fac45af8e51", "f5d3d58503b9699de785895a96fdbaaf"},
	{firstKeyDigits, "30c81c46a35ce411e5fbc1191a0a52ef", "43b1cd7f598ece23881b00e3ed030688"},
	{firstKeyDigits, "f69f2445df4f9b17ad2b417be66c3710", "7b0c785e27e8ad3f8223207104725dd4"},
	{zeroDigits, zeroDigits, "66e94bd4ef8a2c3b884cfa59ca342b2e"},
	{zeroDigits, "f34481ec3cc627bacd5dc3fb08f273e6", "0336763e966d92595a567cc9ce537f5e"},
	{zeroDigits, "80000000000000000000000000000000", "3ad78e726c1ec02b7ebfe92b23d9ec34"},
	{zeroDigits, fullDigits, "3f5b8cc9ea855a0afa7347d23e8d664e"},
	{"10a58869d74be5a374cf867cfb473859", zeroDigits, "6d251e6944b051e04eaa6fb4dbf78465"},
	{"80000000000000000000000000000000", zeroDigits, "0edd33d3c621e546455bd8ba1418bec8"},
	{fullDigits, zeroDigits, "a1f6258c877d5fcd8964484538bfc92c"},
}

// knownRoundKeys are the round keys 0 to 10 of keys, as the standard of AES prints them for its two examples.
var knownRoundKeys = [][]string{
	{
		firstKeyDigits,
		"a0fafe1788542cb123a339392a6c7605", "f2c295f27a96b9435935807a7359f67f", "3d80477d4716fe3e1e237e446d7a883b",
		"ef44a541a8525b7fb671253bdb0bad00", "d4d1c6f87c839d87caf2b8bc11f915bc", "6d88a37a110b3efddbf98641ca0093fd",
		"4e54f70e5f5fc9f384a64fb24ea6dc4f", "ead27321b58dbad2312bf5607f8d292f", "ac7766f319fadc2128d12941575c006e",
		"d014f9a8c9ee2589e13f0cc8b6630ca6",
	},
	{
		secondKeyDigits,
		"d6aa74fdd2af72fadaa678f1d6ab76fe", "b692cf0b643dbdf1be9bc5006830b3fe", "b6ff744ed2c2c9bf6c590cbf0469bf41",
		"47f7f7bc95353e03f96c32bcfd058dfd", "3caaa3e8a99f9deb50f3af57adf622aa", "5e390f7df7a69296a7553dc10aa31f6b",
		"14f9701ae35fe28c440adf4d4ea9c026", "47438735a41c65b9e016baf4aebf7ad2", "549932d1f08557681093ed9cbe2c974e",
		"13111d7fe3944a17f307a78b4d2b30c5",
	},
	{
		zeroDigits,
		"62636363626363636263636362636363", "9b9898c9f9fbfbaa9b9898c9f9fbfbaa", "90973450696ccffaf2f457330b0fac99",
		"ee06da7b876a1581759e42b27e91ee2b", "7f2e2b88f8443e098dda7cbbf34b9290", "ec614b851425758c99ff09376ab49ba7",
		"217517873550620bacaf6b3cc61bf09b", "0ef903333ba9613897060a04511dfa9f", "b1d4d8e28a7db9da1d7bb3de4c664941",
		"b4ef5bcb3e92e21123e951cf6f8f188e",
	},
	{
		fullDigits,
		"e8e9e9e917161616e8e9e9e917161616", "adaeae19bab8b80f525151e6454747f0", "090e2277b3b69a78e1e7cb9ea4a08c6e",
		"e16abd3e52dc2746b33becd8179b60b6", "e5baf3ceb766d488045d385013c658e6", "71d07db3c6b6a93bc2eb916bd12dc98d",
		"e90d208d2fbb89b6ed5018dd3c7dd150", "96337366b988fad054d8e20d68a5335d", "8bf03f233278c5f366a027fe0e0514a3",
		"d60a3588e472f07b82d2d7858cd7c326",
	},
}

// knownRoundConstants are those of the round keys 1 to 10.
var knownRoundConstants = []byte{1, 2, 4, 8, 16, 32, 64, 128, 27, 54}

// knownColumns are from the literature on AES and from the rounds of the first example of the standard.
var knownColumns = []struct{ column, want string }{
	{"db135345", "8e4da1bc"}, {"f20a225c", "9fdc589d"}, {"01010101", "01010101"}, {"c6c6c6c6", "c6c6c6c6"},
	{"d4d4d4d5", "d5d5d7d6"}, {"2d26314c", "4d7ebdf8"}, {"00000000", "00000000"}, {"ffffffff", "ffffffff"},
	{"d4bf5d30", "046681e5"}, {"e0b452ae", "e0cb199a"}, {"b84111f1", "48f8d37a"}, {"1e2798e5", "2806264c"},
	{"01000000", "02010103"}, {"00010000", "03020101"}, {"00000100", "01030201"}, {"00000001", "01010302"},
	{"80000000", "1b80809b"}, {"00800000", "9b1b8080"}, {"00008000", "809b1b80"}, {"00000080", "80809b1b"},
}

// otherLengths are lengths that neither a key nor a block has, those of the longer keys of AES among them.
var otherLengths = []int{0, 1, 2, 3, 4, 8, 12, 14, 15, 17, 18, 20, 24, 31, 32, 33, 48, 64, 128, 256, 4096}

// unhexed reads digits that are written down in these tests.
func unhexed(t *testing.T, digits string) string {
	t.Helper()
	text, err := hex.DecodeString(digits)
	if err != nil {
		t.Fatalf("digits %q: %v", digits, err)
	}
	return string(text)
}

func randomText(source *rand.Rand, n int) string {
	text := make([]byte, n)
	source.Read(text)
	return string(text)
}

// sampleBlocks are texts of 16 bytes: equal bytes, single bits, rising bytes and mixed ones.
func sampleBlocks() []string {
	blocks := []string{textOf(16), eachByteMixed(textOf(16), 128), "0123456789abcdef", "\x80\x81\x82\x83\x84\x85\x86\x87\x88\x89\x8a\x8b\x8c\x8d\x8e\x8f"}
	for _, b := range []byte{0, 1, 127, 128, 254, 255} {
		blocks = append(blocks, strings.Repeat(string([]byte{b}), 16))
	}
	for bit := range 128 {
		blocks = append(blocks, withBit(strings.Repeat("\x00", 16), bit/8, 128>>(bit%8)))
	}
	source := rand.New(rand.NewSource(6))
	for range 60 {
		blocks = append(blocks, randomText(source, 16))
	}
	return blocks
}

// encrypted is the standard library's encryption of a block.
func encrypted(t *testing.T, key string, block string) string {
	t.Helper()
	cipher, err := aes.NewCipher([]byte(key))
	if err != nil {
		t.Fatal(err)
	}
	result := make([]byte, len(block))
	cipher.Encrypt(result, []byte(block))
	return string(result)
}

// expandedKey returns all bytes of the round keys, one after the other.
func expandedKey(key string) string {
	words := []byte(key)
	for len(words) < 11*16 {
		word := slices.Clone(words[len(words)-4:])
		if len(words)%16 == 0 {
			word = []byte{
				byte(knownBox[word[1]]) ^ knownRoundConstants[len(words)/16-1],
				byte(knownBox[word[2]]), byte(knownBox[word[3]]), byte(knownBox[word[0]]),
			}
		}
		for _, b := range word {
			words = append(words, words[len(words)-16]^b)
		}
	}
	return string(words)
}

// mixedColumn has the four sums of the document, one by one.
func mixedColumn(column string) string {
	a, b, c, d := int(column[0]), int(column[1]), int(column[2]), int(column[3])
	return string([]byte{
		byte(longProduct(2, a) ^ longProduct(3, b) ^ c ^ d),
		byte(a ^ longProduct(2, b) ^ longProduct(3, c) ^ d),
		byte(a ^ b ^ longProduct(2, c) ^ longProduct(3, d)),
		byte(longProduct(3, a) ^ b ^ c ^ longProduct(2, d)),
	})
}

func mixedColumns(block string) string {
	return mixedColumn(block[:4]) + mixedColumn(block[4:8]) + mixedColumn(block[8:12]) + mixedColumn(block[12:])
}

func checkRoundKeys(t *testing.T, key string, want []string) {
	t.Helper()
	got := impl.RoundKeys(key)
	if len(got) != 11 {
		t.Fatalf("RoundKeys(%x): got %d round keys, want 11", key, len(got))
	}
	for k := range got {
		if got[k] != want[k] {
			t.Errorf("RoundKeys(%x): round key %d: got %x, want %x", key, k, got[k], want[k])
		}
	}
}

func checkBoxText(t *testing.T, s string, want string) {
	t.Helper()
	if got := impl.BoxText(s); got != want {
		t.Errorf("BoxText(%x): got %x, want %x", s, got, want)
	}
}

func checkShiftRows(t *testing.T, block string, want string) {
	t.Helper()
	if got := impl.ShiftRows(block); got != want {
		t.Errorf("ShiftRows(%x): got %x, want %x", block, got, want)
	}
}

func checkMixColumns(t *testing.T, block string, want string) {
	t.Helper()
	if got := impl.MixColumns(block); got != want {
		t.Errorf("MixColumns(%x): got %x, want %x", block, got, want)
	}
}

func checkBlockText(t *testing.T, key string, block string, want string) {
	t.Helper()
	if got := impl.BlockText(key, block); got != want {
		t.Errorf("BlockText(%x, %x): got %x, want %x", key, block, got, want)
	}
}

func TestBlockConstants(t *testing.T) {
	if impl.BlockKey != 16 || impl.Rounds != 10 {
		t.Errorf("got BlockKey %d and Rounds %d, want 16 and 10", impl.BlockKey, impl.Rounds)
	}
}

func TestBlockTextKnownBlocks(t *testing.T) {
	for _, c := range knownBlocks {
		checkBlockText(t, unhexed(t, c.key), unhexed(t, c.block), unhexed(t, c.want))
	}
}

func TestBlockTextOfSeveralKeysAndBlocks(t *testing.T) {
	blocks := sampleBlocks()
	zero := strings.Repeat("\x00", 16)
	for i, a := range blocks {
		b := blocks[len(blocks)-1-i]
		checkBlockText(t, zero, a, encrypted(t, zero, a))
		checkBlockText(t, a, zero, encrypted(t, a, zero))
		checkBlockText(t, a, a, encrypted(t, a, a))
		checkBlockText(t, a, b, encrypted(t, a, b))
	}
}

// Each encryption is the next block, and now and then the next key.
func TestBlockTextOfItsOwnResults(t *testing.T) {
	key, block := unhexed(t, firstKeyDigits), unhexed(t, zeroDigits)
	for i := range 300 {
		want := encrypted(t, key, block)
		checkBlockText(t, key, block, want)
		if i%10 == 9 {
			key = block
		}
		block = want
	}
}

func TestBlockTextIsDifferentForDifferentBlocks(t *testing.T) {
	seen := map[string]string{}
	for _, block := range sampleBlocks() {
		got := impl.BlockText("0123456789abcdef", block)
		if other, ok := seen[got]; ok && other != block {
			t.Errorf("BlockText: got %x for both %x and %x", got, block, other)
		}
		seen[got] = block
	}
}

// The steps are those of the document, with the round keys and the other functions of the chapter.
func TestBlockTextLeavesTheColumnsOfTheLastRound(t *testing.T) {
	for _, key := range []string{unhexed(t, firstKeyDigits), unhexed(t, secondKeyDigits), textOf(16)} {
		for _, block := range sampleBlocks() {
			keys := impl.RoundKeys(key)
			if len(keys) != 11 {
				t.Fatalf("RoundKeys(%x): got %d round keys, want 11", key, len(keys))
			}
			state := impl.XorText(block, keys[0])
			for k := 1; k <= 9; k++ {
				state = impl.XorText(impl.MixColumns(impl.ShiftRows(impl.BoxText(state))), keys[k])
			}
			last := impl.ShiftRows(impl.BoxText(state))
			checkBlockText(t, key, block, impl.XorText(last, keys[10]))
			if impl.BlockText(key, block) == impl.XorText(mixedColumns(last), keys[10]) && mixedColumns(last) != last {
				t.Errorf("BlockText(%x, %x): the columns of the last round are mixed", key, block)
			}
		}
	}
}

// The states of the first and the last round are those that the standard of AES prints for its two examples.
func TestBlockStepsOfKnownRounds(t *testing.T) {
	for _, c := range []struct{ start, boxed, shifted, mixed string }{
		{"193de3bea0f4e22b9ac68d2ae9f84808", "d42711aee0bf98f1b8b45de51e415230", "d4bf5d30e0b452aeb84111f11e2798e5", "046681e5e0cb199a48f8d37a2806264c"},
		{"00102030405060708090a0b0c0d0e0f0", "63cab7040953d051cd60e0e7ba70e18c", "6353e08c0960e104cd70b751bacad0e7", "5f72641557f5bc92f7be3b291db9f91a"},
		{"eb40f21e592e38848ba113e71bc342d2", "e9098972cb31075f3d327d94af2e2cb5", "e9317db5cb322c723d2e895faf090794", ""},
		{"bd6e7c3df2b5779e0b61216e8b10b689", "7a9f102789d5f50b2beffd9f3dca4ea7", "7ad5fda789ef4e272bca100b3d9ff59f", ""},
	} {
		checkBoxText(t, unhexed(t, c.start), unhexed(t, c.boxed))
		checkShiftRows(t, unhexed(t, c.boxed), unhexed(t, c.shifted))
		if c.mixed != "" {
			checkMixColumns(t, unhexed(t, c.shifted), unhexed(t, c.mixed))
		}
	}
}

func TestBlockTextOfOtherLengths(t *testing.T) {
	for _, n := range otherLengths {
		checkBlockText(t, textOf(n), textOf(16), "")
		checkBlockText(t, textOf(16), textOf(n), "")
		checkBlockText(t, textOf(n), textOf(n), "")
		checkBlockText(t, textOf(n), "", "")
		checkBlockText(t, "", textOf(n), "")
	}
	checkBlockText(t, textOf(15), textOf(17), "")
	checkBlockText(t, textOf(17), textOf(15), "")
}

func TestRoundKeysOfKnownKeys(t *testing.T) {
	for _, digits := range knownRoundKeys {
		want := []string{}
		for _, d := range digits {
			want = append(want, unhexed(t, d))
		}
		checkRoundKeys(t, want[0], want)
	}
}

func TestRoundKeysOfSeveralKeys(t *testing.T) {
	for _, key := range sampleBlocks() {
		want := []string{}
		for round := range slices.Chunk([]byte(expandedKey(key)), 16) {
			want = append(want, string(round))
		}
		checkRoundKeys(t, key, want)
	}
}

func TestRoundKeysBeginWithTheKey(t *testing.T) {
	for _, key := range sampleBlocks() {
		keys := impl.RoundKeys(key)
		if len(keys) != impl.Rounds+1 || keys[0] != key {
			t.Errorf("RoundKeys(%x): got %x, want %d round keys and the key first", key, keys, impl.Rounds+1)
		}
	}
}

// Only the first word of a round key passes through the box and gets a constant.
func TestRoundKeysWordByWord(t *testing.T) {
	for _, key := range sampleBlocks() {
		all := strings.Join(impl.RoundKeys(key), "")
		if len(all) != 176 {
			t.Fatalf("RoundKeys(%x): got %d bytes, want 176", key, len(all))
		}
		for at := 16; at < 176; at += 4 {
			previous := all[at-4 : at]
			if at%16 == 0 {
				previous = impl.BoxText(previous[1:] + previous[:1])
				previous = withBit(previous, 0, byte(impl.FieldPow(2, at/16-1)))
			}
			if got, want := all[at:at+4], impl.XorText(all[at-16:at-12], previous); got != want {
				t.Errorf("RoundKeys(%x): word %d: got %x, want %x", key, at/4, got, want)
			}
		}
	}
}

func TestRoundKeysAreNewMemory(t *testing.T) {
	key := unhexed(t, firstKeyDigits)
	first := impl.RoundKeys(key)
	second := impl.RoundKeys(key)
	for i := range first {
		first[i] = "changed"
	}
	if slices.Contains(second, "changed") || slices.Contains(impl.RoundKeys(key), "changed") {
		t.Error("RoundKeys: a change of one result is seen in another")
	}
}

func TestRoundKeysOfOtherLengths(t *testing.T) {
	for _, n := range otherLengths {
		if got := impl.RoundKeys(textOf(n)); got != nil {
			t.Errorf("RoundKeys of %d bytes: got %x, want nil", n, got)
		}
	}
}

func TestBoxTextOfAllBytes(t *testing.T) {
	text, want := []byte{}, []byte{}
	for b := range 256 {
		text = append(text, byte(b))
		want = append(want, byte(knownBox[b]))
		checkBoxText(t, string([]byte{byte(b)}), string([]byte{byte(knownBox[b])}))
	}
	checkBoxText(t, string(text), string(want))
	slices.Reverse(text)
	slices.Reverse(want)
	checkBoxText(t, string(text), string(want))
}

func TestBoxTextOfSeveralLengths(t *testing.T) {
	checkBoxText(t, "", "")
	for _, n := range append(otherLengths, 16, 65536, 100000) {
		want := make([]byte, n)
		for i, b := range []byte(textOf(n)) {
			want[i] = byte(knownBox[b])
		}
		if got := impl.BoxText(textOf(n)); got != string(want) {
			t.Errorf("BoxText of %d bytes: got %d bytes or other bytes", n, len(got))
		}
	}
}

func TestShiftRowsKnownBlocks(t *testing.T) {
	checkShiftRows(t, "0123456789abcdef", "05af49e38d27c16b")
	checkShiftRows(t, unhexed(t, "808182838485868788898a8b8c8d8e8f"), unhexed(t, "80858a8f84898e83888d82878c81868b"))
	checkShiftRows(t, unhexed(t, "f0f1f2f3f4f5f6f7f8f9fafbfcfdfeff"), unhexed(t, "f0f5fafff4f9fef3f8fdf2f7fcf1f6fb"))
}

func TestShiftRowsMovesEachByte(t *testing.T) {
	for column := range 4 {
		for row := range 4 {
			block := withBit(strings.Repeat("\x00", 16), 4*column+row, 255)
			// A rotation to the left by the row lowers the column by as much.
			want := withBit(strings.Repeat("\x00", 16), 4*((column+4-row)%4)+row, 255)
			checkShiftRows(t, block, want)
		}
	}
}

func TestShiftRowsFourTimes(t *testing.T) {
	for _, block := range append(sampleBlocks(), "0123456789abcdef") {
		shifted := block
		for range 4 {
			shifted = impl.ShiftRows(shifted)
		}
		if shifted != block {
			t.Errorf("ShiftRows four times of %x: got %x", block, shifted)
		}
	}
	if impl.ShiftRows(impl.ShiftRows("0123456789abcdef")) == "0123456789abcdef" {
		t.Error("ShiftRows twice: got the same block")
	}
}

func TestShiftRowsOfOtherLengths(t *testing.T) {
	for _, n := range otherLengths {
		checkShiftRows(t, textOf(n), textOf(n))
		checkShiftRows(t, eachByteMixed(textOf(n), 128), eachByteMixed(textOf(n), 128))
	}
}

// Each column is tried at each place, beside columns that differ from it.
func TestMixColumnsKnownColumns(t *testing.T) {
	for _, c := range knownColumns {
		column, want := unhexed(t, c.column), unhexed(t, c.want)
		checkMixColumns(t, strings.Repeat(column, 4), strings.Repeat(want, 4))
		for place := range 4 {
			before, after := strings.Repeat("\xdb\x13\x53\x45", place), strings.Repeat("\xf2\x0a\x22\x5c", 3-place)
			wantBefore, wantAfter := strings.Repeat("\x8e\x4d\xa1\xbc", place), strings.Repeat("\x9f\xdc\x58\x9d", 3-place)
			checkMixColumns(t, before+column+after, wantBefore+want+wantAfter)
		}
	}
}

func TestMixColumnsOfEveryByteAtEveryPlace(t *testing.T) {
	for place := range 16 {
		for b := range 256 {
			block := withBit(strings.Repeat("\x00", 16), place, byte(b))
			checkMixColumns(t, block, mixedColumns(block))
		}
	}
}

func TestMixColumnsOfSeveralBlocks(t *testing.T) {
	for _, block := range sampleBlocks() {
		checkMixColumns(t, block, mixedColumns(block))
	}
}

func TestMixColumnsFourTimes(t *testing.T) {
	for _, block := range sampleBlocks() {
		mixed := block
		for range 4 {
			mixed = impl.MixColumns(mixed)
		}
		if mixed != block {
			t.Errorf("MixColumns four times of %x: got %x", block, mixed)
		}
	}
	if impl.MixColumns(impl.MixColumns("0123456789abcdef")) == "0123456789abcdef" {
		t.Error("MixColumns twice: got the same block")
	}
}

func TestMixColumnsOfOtherLengths(t *testing.T) {
	for _, n := range otherLengths {
		checkMixColumns(t, textOf(n), textOf(n))
		checkMixColumns(t, eachByteMixed(textOf(n), 128), eachByteMixed(textOf(n), 128))
	}
}
