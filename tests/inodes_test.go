package tests

import (
	"encoding/binary"
	"math"
	"math/rand"
	"regexp"
	"slices"
	"strconv"
	"strings"
	"testing"

	"loop.example/g00969/impl"
)

const zeroWord = "\x00\x00\x00\x00\x00\x00\x00\x00"

// knownInodes are valid ones with their words written out, so that no other code is needed to check these.
var knownInodes = []struct {
	n     impl.Inode
	words []string
}{
	{
		impl.Inode{},
		[]string{zeroWord, zeroWord, zeroWord, zeroWord, zeroWord, zeroWord, zeroWord, zeroWord},
	},
	{
		impl.Inode{Kind: impl.InFree, Gen: 258},
		[]string{"\x00\x00\x00\x01\x02\x00\x00\x00", zeroWord, zeroWord, zeroWord, zeroWord, zeroWord, zeroWord, zeroWord},
	},
	{
		impl.Inode{Kind: impl.InFree, Gen: 65535},
		[]string{"\x00\x00\x00\xff\xff\x00\x00\x00", zeroWord, zeroWord, zeroWord, zeroWord, zeroWord, zeroWord, zeroWord},
	},
	{
		impl.Inode{Kind: impl.InFile, Gen: 3, Key: "12345678"},
		[]string{"\x01\x00\x00\x00\x03\x00\x00\x00", "12345678", zeroWord, zeroWord, zeroWord, zeroWord, zeroWord, zeroWord},
	},
	{
		impl.Inode{Kind: impl.InFile, Key: zeroWord},
		[]string{"\x01\x00\x00\x00\x00\x00\x00\x00", zeroWord, zeroWord, zeroWord, zeroWord, zeroWord, zeroWord, zeroWord},
	},
	{
		impl.Inode{Kind: impl.InFile, Size: 1, Gen: 65535, Key: "key\x00\xff\x80 +", Recs: []impl.Rec{{Page: 12, Serial: 16777215, Mark: "\x00\x00\x00\x00"}}},
		[]string{"\x01\x00\x01\xff\xff\x00\x00\x00", "key\x00\xff\x80 +", "\x0c\xff\xff\xff\x00\x00\x00\x00", zeroWord, zeroWord, zeroWord, zeroWord, zeroWord},
	},
	{
		impl.Inode{Kind: impl.InFile, Size: 33, Gen: 1, Key: "12345678", Recs: []impl.Rec{{Page: 2, Serial: 258, Mark: "abcd"}, {Page: 1, Serial: 1, Mark: "efgh"}}},
		[]string{"\x01\x00\x21\x00\x01\x00\x00\x00", "12345678", "\x02\x00\x01\x02abcd", "\x01\x00\x00\x01efgh", zeroWord, zeroWord, zeroWord, zeroWord},
	},
	{
		impl.Inode{Kind: impl.InFile, Size: 128, Gen: 772, Key: "keykeyke", Recs: []impl.Rec{
			{Page: 5, Serial: 66051, Mark: "abcd"}, {Page: 12, Serial: 16777215, Mark: "\xff\xff\xff\xff"}, {Page: 1, Serial: 65536, Mark: "a\x00c\x00"}, {Page: 4, Serial: 1, Mark: "abcd"},
		}},
		[]string{
			"\x01\x00\x80\x03\x04\x00\x00\x00", "keykeyke", "\x05\x01\x02\x03abcd", "\x0c\xff\xff\xff\xff\xff\xff\xff", "\x01\x01\x00\x00a\x00c\x00", "\x04\x00\x00\x01abcd", zeroWord, zeroWord,
		},
	},
	{
		impl.Inode{Kind: impl.InDir, Gen: 1},
		[]string{"\x02\x00\x00\x00\x01\x00\x00\x00", zeroWord, zeroWord, zeroWord, zeroWord, zeroWord, zeroWord, zeroWord},
	},
	{
		impl.Inode{Kind: impl.InDir, Gen: 256, Entries: []impl.Entry{{Inode: 3, Name: "ab"}}},
		[]string{"\x02\x00\x00\x01\x00\x00\x00\x00", zeroWord, "\x03ab\x00\x00\x00\x00\x00", zeroWord, zeroWord, zeroWord, zeroWord, zeroWord},
	},
	{
		impl.Inode{Kind: impl.InDir, Gen: 65534, Entries: []impl.Entry{
			{Inode: 5, Name: "0"}, {Inode: 1, Name: "9zz"}, {Inode: 2, Name: "a"}, {Inode: 4, Name: "aa"}, {Inode: 3, Name: "b"}, {Inode: 5, Name: "zzzzzz9"},
		}},
		[]string{
			"\x02\x00\x00\xff\xfe\x00\x00\x00", zeroWord, "\x050\x00\x00\x00\x00\x00\x00", "\x019zz\x00\x00\x00\x00", "\x02a\x00\x00\x00\x00\x00\x00",
			"\x04aa\x00\x00\x00\x00\x00", "\x03b\x00\x00\x00\x00\x00\x00", "\x05zzzzzz9",
		},
	},
}

// labelledList is a list with whether an inode of the fitting kind and size may have it.
type labelledList[T any] struct {
	list []T
	ok   bool
}

// Numbers that no inode has in any field, those among them that become small in fewer bits.
var numbersTooFar = []int{
	-2, -128, -255, -256, -65536, -16777215, -1 << 24, -1 << 32, math.MinInt, math.MinInt + 1, math.MinInt / 2, 1 << 24, 1<<24 + 1, 1<<24 + 5, 1 << 32, 1<<32 + 1, 1<<32 + 5,
	1<<32 + 32, 1 << 40, 1<<48 + 1, 1 << 62, 1<<62 + 1, math.MaxInt, math.MaxInt - 1,
}

func sameInode(a impl.Inode, b impl.Inode) bool {
	return a.Kind == b.Kind && a.Size == b.Size && a.Gen == b.Gen && a.Key == b.Key && slices.Equal(a.Recs, b.Recs) && slices.Equal(a.Entries, b.Entries)
}

// inodeCopy shares no slice with n.
func inodeCopy(n impl.Inode) impl.Inode {
	n.Recs, n.Entries = slices.Clone(n.Recs), slices.Clone(n.Entries)
	return n
}

func checkNameOk(t *testing.T, s string, want bool) {
	t.Helper()
	if got := impl.NameOk(s); got != want {
		t.Errorf("NameOk(%.40q of %d bytes): got %v, want %v", s, len(s), got, want)
	}
}

func checkRecWord(t *testing.T, r impl.Rec, want string) {
	t.Helper()
	if got := impl.RecWord(r); got != want {
		t.Errorf("RecWord(%#v): got %q, want %q", r, got, want)
	}
}

func checkReadRec(t *testing.T, word string, want impl.Rec, wantOk bool) {
	t.Helper()
	if got, ok := impl.ReadRec(word); got != want || ok != wantOk {
		t.Errorf("ReadRec(%.40q of %d bytes): got %#v and %v, want %#v and %v", word, len(word), got, ok, want, wantOk)
	}
}

func checkEntryWord(t *testing.T, e impl.Entry, want string) {
	t.Helper()
	if got := impl.EntryWord(e); got != want {
		t.Errorf("EntryWord(%#v): got %q, want %q", e, got, want)
	}
}

func checkReadEntry(t *testing.T, word string, want impl.Entry, wantOk bool) {
	t.Helper()
	if got, ok := impl.ReadEntry(word); got != want || ok != wantOk {
		t.Errorf("ReadEntry(%.40q of %d bytes): got %#v and %v, want %#v and %v", word, len(word), got, ok, want, wantOk)
	}
}

func checkPagesFor(t *testing.T, size int, want int) {
	t.Helper()
	if got := impl.PagesFor(size); got != want {
		t.Errorf("PagesFor(%d): got %d, want %d", size, got, want)
	}
}

func checkReadInode(t *testing.T, words []string, want impl.Inode, wantOk bool) {
	t.Helper()
	if got, ok := impl.ReadInode(words); !sameInode(got, want) || ok != wantOk {
		t.Errorf("ReadInode(%.40q): got %#v and %v, want %#v and %v", words, got, ok, want, wantOk)
	}
}

func checkNoInode(t *testing.T, words []string) {
	t.Helper()
	checkReadInode(t, words, impl.Inode{}, false)
}

// checkValidInode takes a valid inode and its words, with every function that there is for them.
func checkValidInode(t *testing.T, n impl.Inode, words []string) {
	t.Helper()
	if !impl.InodeOk(n) {
		t.Errorf("InodeOk(%#v): got false, want true", n)
	}
	if got := impl.InodeWords(n); !slices.Equal(got, words) {
		t.Errorf("InodeWords(%#v): got %q, want %q", n, got, words)
	}
	checkReadInode(t, words, n, true)
}

func checkInvalidInode(t *testing.T, n impl.Inode) {
	t.Helper()
	if impl.InodeOk(n) {
		t.Errorf("InodeOk(%#v): got true, want false", n)
	}
	if got := impl.InodeWords(n); len(got) != 0 {
		t.Errorf("InodeWords(%#v): got %q, want nil", n, got)
	}
}

// writtenRec and writtenEntry put the words together with the standard library, for fields that fit.
func writtenRec(r impl.Rec) string {
	return encodedNumber(r.Page, 1) + encodedNumber(r.Serial, 3) + r.Mark
}

func writtenEntry(e impl.Entry) string {
	return (encodedNumber(e.Inode, 1) + e.Name + zeroWord)[:8]
}

// writtenInode puts the words of a valid inode together.
func writtenInode(n impl.Inode) []string {
	words := []string{encodedNumber(n.Kind, 1) + encodedNumber(n.Size, 2) + encodedNumber(n.Gen, 2) + "\x00\x00\x00", (n.Key + zeroWord)[:8]}
	for _, r := range n.Recs {
		words = append(words, writtenRec(r))
	}
	for _, e := range n.Entries {
		words = append(words, writtenEntry(e))
	}
	for len(words) < 8 {
		words = append(words, zeroWord)
	}
	return words
}

var entryForm = regexp.MustCompile(`^[\x01-\x05]([0-9a-z]{1,7})\x00*$`)

// recIn, entryIn and inodeIn decode words by the letter of the specification, one requirement after the other.
func recIn(word string) (impl.Rec, bool) {
	if len(word) != 8 || word[0] < 1 || word[0] > 12 || word[1:4] == "\x00\x00\x00" {
		return impl.Rec{}, false
	}
	return impl.Rec{Page: int(word[0]), Serial: int(binary.BigEndian.Uint32([]byte("\x00" + word[1:4]))), Mark: word[4:]}, true
}

func entryIn(word string) (impl.Entry, bool) {
	found := entryForm.FindStringSubmatch(word)
	if len(word) != 8 || found == nil {
		return impl.Entry{}, false
	}
	return impl.Entry{Inode: int(word[0]), Name: found[1]}, true
}

func recsIn(words []string, size int) ([]impl.Rec, bool) {
	recs, pages := []impl.Rec{}, map[int]bool{}
	for i, word := range words {
		r, ok := recIn(word)
		if 32*i >= size && word != zeroWord || 32*i < size && (!ok || pages[r.Page]) {
			return nil, false
		}
		if ok {
			recs = append(recs, r)
			pages[r.Page] = true
		}
	}
	return recs, size <= 128
}

func entriesIn(words []string) ([]impl.Entry, bool) {
	entries, ended := []impl.Entry{}, false
	for i, word := range words {
		e, ok := entryIn(word)
		// The names of two words are in the order of what is behind their first bytes.
		if ok == (word == zeroWord) || ok && ended || ok && i > 0 && words[i-1][1:] >= word[1:] {
			return nil, false
		}
		ended = !ok
		if ok {
			entries = append(entries, e)
		}
	}
	return entries, true
}

func inodeIn(words []string) (impl.Inode, bool) {
	if len(words) != 8 || slices.ContainsFunc(words, func(word string) bool { return len(word) != 8 }) || words[0][5:] != "\x00\x00\x00" {
		return impl.Inode{}, false
	}
	n := impl.Inode{Kind: int(words[0][0]), Size: int(words[0][1])<<8 + int(words[0][2]), Gen: int(words[0][3])<<8 + int(words[0][4])}
	ok := false
	switch n.Kind {
	case 0:
		ok = n.Size == 0 && strings.Join(words[1:], "") == strings.Repeat("\x00", 56)
	case 1:
		n.Key = words[1]
		n.Recs, ok = recsIn(words[2:], n.Size)
	case 2:
		n.Entries, ok = entriesIn(words[2:])
		ok = ok && n.Size == 0 && words[1] == zeroWord
	}
	if !ok {
		return impl.Inode{}, false
	}
	return n, true
}

// checkAsWritten takes any words: they are those of just the inode that inodeIn finds, or of none.
func checkAsWritten(t *testing.T, words []string) bool {
	t.Helper()
	want, ok := inodeIn(words)
	if ok && !slices.Equal(writtenInode(want), words) {
		t.Errorf("the tests take %q for the words of %#v", words, want)
	}
	checkReadInode(t, words, want, ok)
	if ok {
		checkValidInode(t, want, words)
	}
	return ok
}

func randomName(source *rand.Rand) string {
	name := []byte{}
	for range 1 + source.Intn(7) {
		name = append(name, "0123456789abcdefghijklmnopqrstuvwxyz"[source.Intn(36)])
	}
	return string(name)
}

func randomInode(source *rand.Rand) impl.Inode {
	n := impl.Inode{Kind: source.Intn(3), Gen: source.Intn(65536)}
	switch n.Kind {
	case impl.InFile:
		n.Size, n.Key = source.Intn(129), randomText(source, 8)
		for i, page := range source.Perm(12)[:4] {
			if 32*i < n.Size {
				n.Recs = append(n.Recs, impl.Rec{Page: page + 1, Serial: 1 + source.Intn(16777215), Mark: randomText(source, 4)})
			}
		}
	case impl.InDir:
		names := []string{}
		for range source.Intn(7) {
			names = append(names, randomName(source))
		}
		slices.Sort(names)
		for _, name := range slices.Compact(names) {
			n.Entries = append(n.Entries, impl.Entry{Inode: 1 + source.Intn(5), Name: name})
		}
	}
	return n
}

// validInodes are the known ones and random ones.
func validInodes(more int) []impl.Inode {
	inodes := []impl.Inode{}
	for _, c := range knownInodes {
		inodes = append(inodes, inodeCopy(c.n))
	}
	source := rand.New(rand.NewSource(12))
	for range more {
		inodes = append(inodes, randomInode(source))
	}
	return inodes
}

// someRecs have distinct pages, the same serial numbers and different marks.
func someRecs(n int) []impl.Rec {
	recs := []impl.Rec{}
	for i := range n {
		recs = append(recs, impl.Rec{Page: 12 - i, Serial: 7, Mark: "mk0" + strconv.Itoa(i)})
	}
	return recs
}

// someEntries are ascending and have only three different inodes.
func someEntries(n int) []impl.Entry {
	entries := []impl.Entry{}
	for i := range n {
		entries = append(entries, impl.Entry{Inode: 1 + 2*(i%3), Name: "n" + strconv.Itoa(i)})
	}
	return entries
}

// fileOf has a size that fits the number of its Recs.
func fileOf(recs ...impl.Rec) impl.Inode {
	return impl.Inode{Kind: impl.InFile, Size: 32 * len(recs), Gen: 9, Key: "file key", Recs: recs}
}

func dirOf(entries ...impl.Entry) impl.Inode {
	return impl.Inode{Kind: impl.InDir, Gen: 9, Entries: entries}
}

// badRecs are wrong in one field each.
func badRecs() []impl.Rec {
	recs := []impl.Rec{
		{}, {Page: 0, Serial: 5, Mark: "abcd"}, {Page: 13, Serial: 5, Mark: "abcd"}, {Page: -1, Serial: 5, Mark: "abcd"}, {Page: 255, Serial: 5, Mark: "abcd"}, {Page: 256, Serial: 5, Mark: "abcd"},
		{Page: 257, Serial: 5, Mark: "abcd"}, {Page: 2, Serial: 0, Mark: "abcd"}, {Page: 2, Serial: -1, Mark: "abcd"}, {Page: 2, Serial: 16777216, Mark: "abcd"}, {Page: 2, Serial: 16777217, Mark: "abcd"},
		{Page: 2, Serial: 5}, {Page: 2, Serial: 5, Mark: "abc"}, {Page: 2, Serial: 5, Mark: "abcde"}, {Page: 2, Serial: 5, Mark: "abcdefgh"}, {Page: 2, Serial: 5, Mark: strings.Repeat("a", 260)},
	}
	for _, n := range numbersTooFar {
		recs = append(recs, impl.Rec{Page: n, Serial: 5, Mark: "abcd"}, impl.Rec{Page: 2, Serial: n, Mark: "abcd"})
	}
	return recs
}

// badNames are too short, too long or have a byte that no name has.
func badNames() []string {
	return []string{
		"", "abcdefgh", "12345678", "abcdefghi", "A", "Z", "aB", "_", "-", ".", "..", "/", "a/b", " ", "a ", " a", "\x00", "a\x00", "\x00a", "a\x00b", "\x7f", "\xff", "abc\xff", "\u00e9", "a\u00e9", "`", "{", ":", "a`", "0/",
		strings.Repeat("a", 256), strings.Repeat("a", 257), strings.Repeat("a", 263), "\t", "a\n", "abcdef\x00", "abcdefg\x00",
	}
}

// badEntries are wrong in one field each.
func badEntries() []impl.Entry {
	entries := []impl.Entry{{}, {Inode: 0, Name: "ab"}, {Inode: 6, Name: "ab"}, {Inode: -1, Name: "ab"}, {Inode: 12, Name: "ab"}, {Inode: 255, Name: "ab"}, {Inode: 256, Name: "ab"}, {Inode: 257, Name: "ab"}}
	for _, n := range numbersTooFar {
		entries = append(entries, impl.Entry{Inode: n, Name: "ab"})
	}
	for _, name := range badNames() {
		entries = append(entries, impl.Entry{Inode: 3, Name: name})
	}
	return entries
}

// recLists are lists of each length with distinct pages, with a page that comes twice, and with an invalid Rec at each place.
func recLists() []labelledList[impl.Rec] {
	lists := []labelledList[impl.Rec]{}
	for n := range 6 {
		lists = append(lists, labelledList[impl.Rec]{someRecs(n), true})
		for i := range n {
			for k := range i {
				recs := someRecs(n)
				recs[i].Page = recs[k].Page
				lists = append(lists, labelledList[impl.Rec]{recs, false})
			}
			for _, bad := range badRecs()[:12] {
				recs := someRecs(n)
				recs[i] = bad
				lists = append(lists, labelledList[impl.Rec]{recs, false})
			}
		}
	}
	return lists
}

// entryLists are lists of each length that are ascending, and that are not because of two of their places.
func entryLists() []labelledList[impl.Entry] {
	lists := []labelledList[impl.Entry]{}
	for n := range 9 {
		lists = append(lists, labelledList[impl.Entry]{someEntries(n), n <= 6})
		for i := range n {
			for k := range i {
				same, swapped := someEntries(n), someEntries(n)
				same[i].Name = same[k].Name
				swapped[i], swapped[k] = swapped[k], swapped[i]
				lists = append(lists, labelledList[impl.Entry]{same, false}, labelledList[impl.Entry]{swapped, false})
			}
			for _, bad := range []impl.Entry{{}, {Inode: 0, Name: "n" + strconv.Itoa(i)}, {Inode: 6, Name: "n" + strconv.Itoa(i)}, {Inode: 2}, {Inode: 2, Name: "n" + strconv.Itoa(i) + "."}, {Inode: 2, Name: "n" + strconv.Itoa(i) + "abcdef"}} {
				entries := someEntries(n)
				entries[i] = bad
				lists = append(lists, labelledList[impl.Entry]{entries, false})
			}
		}
	}
	return lists
}

func TestInodesConstants(t *testing.T) {
	numbers := []int{impl.InFree, impl.InFile, impl.InDir, impl.FilePages, impl.MaxFile, impl.MaxEntries, impl.MaxName, impl.MaxSerial, impl.MaxGen}
	if want := []int{0, 1, 2, 4, 128, 6, 7, 16777215, 65535}; !slices.Equal(numbers, want) {
		t.Errorf("got the constants %v, want %v", numbers, want)
	}
}

func TestNameOkForEachLength(t *testing.T) {
	for _, long := range []string{strings.Repeat("a", 600), strings.Repeat("z", 600), strings.Repeat("09", 300), strings.Repeat("abc7", 150)} {
		for length := range 601 {
			checkNameOk(t, long[:length], length >= 1 && length <= 7)
		}
	}
	for _, name := range []string{"a", "z", "0", "9", "abcdefg", "hijklmn", "opqrstu", "vwxyz", "01234", "56789", "a0", "0a", "10", "zzzzzz9"} {
		checkNameOk(t, name, true)
	}
	for _, name := range badNames() {
		checkNameOk(t, name, false)
	}
}

// Every byte at every place of names of all lengths.
func TestNameOkForEachByte(t *testing.T) {
	for b := range 256 {
		ok := strings.IndexByte("abcdefghijklmnopqrstuvwxyz0123456789", byte(b)) >= 0
		for length := 1; length <= 8; length++ {
			for at := range length {
				name := []byte("a9z0m5q7"[:length])
				name[at] = byte(b)
				checkNameOk(t, string(name), ok && length <= 7)
			}
		}
	}
}

// Every combination of numbers at the ends of their ranges, inside and outside, and of lengths of the mark.
func TestRecsAtTheEndsOfEachRange(t *testing.T) {
	pages := append([]int{-1, 0, 1, 2, 7, 11, 12, 13, 14, 127, 128, 255, 256, 257, 268}, numbersTooFar...)
	serials := append([]int{-1, 0, 1, 2, 255, 256, 257, 65535, 65536, 65793, 16777214, 16777215, 16777216, 16777217}, numbersTooFar...)
	for _, page := range pages {
		for _, serial := range serials {
			for _, mark := range []string{"", "a", "abc", "abcd", "abcde", "abcdefgh", "\x00\x00\x00", "\x00\x00\x00\x00", "\x00\x00\x00\x00\x00", "\xff\x80\x00\x7f", "\u00e9\u00e9"} {
				r := impl.Rec{Page: page, Serial: serial, Mark: mark}
				if page < 1 || page > 12 || serial < 1 || serial > 16777215 || len(mark) != 4 {
					checkRecWord(t, r, "")
				} else {
					checkRecWord(t, r, writtenRec(r))
					checkReadRec(t, writtenRec(r), r, true)
				}
			}
		}
	}
	for _, r := range badRecs() {
		checkRecWord(t, r, "")
	}
}

func TestKnownRecs(t *testing.T) {
	for _, c := range []struct {
		r    impl.Rec
		word string
	}{
		{impl.Rec{Page: 2, Serial: 258, Mark: "abcd"}, "\x02\x00\x01\x02abcd"},
		{impl.Rec{Page: 1, Serial: 1, Mark: "\x00\x00\x00\x00"}, "\x01\x00\x00\x01\x00\x00\x00\x00"},
		{impl.Rec{Page: 12, Serial: 16777215, Mark: "\xff\xff\xff\xff"}, "\x0c\xff\xff\xff\xff\xff\xff\xff"},
		{impl.Rec{Page: 10, Serial: 66051, Mark: "\n\r\x00\x00"}, "\x0a\x01\x02\x03\n\r\x00\x00"},
		{impl.Rec{Page: 3, Serial: 65536, Mark: "3\x00\x001"}, "\x03\x01\x00\x003\x00\x001"},
	} {
		checkRecWord(t, c.r, c.word)
		checkReadRec(t, c.word, c.r, true)
	}
}

func TestReadRecForEachPageAndSerial(t *testing.T) {
	serials := []int{0, 1, 2, 128, 255, 256, 65280, 65535, 65536, 16711680, 16777214, 16777215}
	source := rand.New(rand.NewSource(13))
	for range 40 {
		serials = append(serials, source.Intn(16777216))
	}
	for page := range 256 {
		for _, serial := range serials {
			word := encodedNumber(page, 1) + encodedNumber(serial, 3) + randomText(source, 4)
			if page >= 1 && page <= 12 && serial >= 1 {
				checkReadRec(t, word, impl.Rec{Page: page, Serial: serial, Mark: word[4:]}, true)
			} else {
				checkReadRec(t, word, impl.Rec{}, false)
			}
		}
	}
}

func TestReadRecForEachByte(t *testing.T) {
	for _, word := range []string{"\x02\x00\x01\x02abcd", "\x01\x00\x00\x01\x00\x00\x00\x00", "\x0c\xff\xff\xff\xff\xff\xff\xff", zeroWord} {
		for at := range 8 {
			for b := range 256 {
				changed := word[:at] + encodedNumber(b, 1) + word[at+1:]
				want, ok := recIn(changed)
				checkReadRec(t, changed, want, ok)
			}
		}
	}
}

func TestReadRecForOtherLengths(t *testing.T) {
	long := "\x02\x00\x01\x02abcd\x00\x00\x00\x00\x00\x00\x00\x00\x02\x00\x01\x02abcd"
	for length := range len(long) + 1 {
		if length != 8 {
			checkReadRec(t, long[:length], impl.Rec{}, false)
		}
	}
	for _, word := range []string{strings.Repeat("\x01", 7), strings.Repeat("\x01", 9), strings.Repeat("\x01", 1000), "\x00\x02\x00\x01\x02abcd"} {
		checkReadRec(t, word, impl.Rec{}, false)
	}
}

func TestEntriesAtTheEndsOfEachRange(t *testing.T) {
	names := append([]string{"a", "z", "0", "9", "ab", "b0", "abc", "wxyz", "01234", "abcdef", "abcdefg", "zzzzzzz", "0000000"}, badNames()...)
	inodes := append([]int{-1, 0, 1, 2, 3, 4, 5, 6, 7, 12, 127, 128, 255, 256, 257, 261}, numbersTooFar...)
	for i, name := range names {
		for _, inode := range inodes {
			e := impl.Entry{Inode: inode, Name: name}
			if inode < 1 || inode > 5 || i >= 13 {
				checkEntryWord(t, e, "")
			} else {
				checkEntryWord(t, e, writtenEntry(e))
				checkReadEntry(t, writtenEntry(e), e, true)
			}
		}
	}
	for _, e := range badEntries() {
		checkEntryWord(t, e, "")
	}
}

func TestKnownEntries(t *testing.T) {
	for _, c := range []struct {
		e    impl.Entry
		word string
	}{
		{impl.Entry{Inode: 3, Name: "ab"}, "\x03ab\x00\x00\x00\x00\x00"},
		{impl.Entry{Inode: 1, Name: "a"}, "\x01a\x00\x00\x00\x00\x00\x00"},
		{impl.Entry{Inode: 5, Name: "abcdefg"}, "\x05abcdefg"},
		{impl.Entry{Inode: 5, Name: "zy0189"}, "\x05zy0189\x00"},
		{impl.Entry{Inode: 2, Name: "0"}, "\x020\x00\x00\x00\x00\x00\x00"},
	} {
		checkEntryWord(t, c.e, c.word)
		checkReadEntry(t, c.word, c.e, true)
	}
	for _, word := range []string{
		zeroWord, "\x03\x00\x00\x00\x00\x00\x00\x00", "\x00ab\x00\x00\x00\x00\x00", "\x06ab\x00\x00\x00\x00\x00", "\xffab\x00\x00\x00\x00\x00", "3ab\x00\x00\x00\x00\x00", "\x03\x00ab\x00\x00\x00\x00", "\x03a\x00b\x00\x00\x00\x00",
		"\x03ab\x00\x00\x00\x00c", "\x03abcde\x00g", "\x03\x00bcdefg", "\x03ab \x00\x00\x00\x00", "\x03ab      ", "\x03AB\x00\x00\x00\x00\x00", "\x03abcdef\x01", "\x03abcdef\xff", "abcdefgh", "\x03ab\x00\x00\x00\x00\x01",
	} {
		checkReadEntry(t, word, impl.Entry{}, false)
	}
}

// Every byte at each place of words of names of all lengths.
func TestReadEntryForEachByte(t *testing.T) {
	for length := range 8 {
		word := ("\x03" + "mn0z9ab"[:length] + zeroWord)[:8]
		for at := range 8 {
			for b := range 256 {
				changed := word[:at] + encodedNumber(b, 1) + word[at+1:]
				want, ok := entryIn(changed)
				checkReadEntry(t, changed, want, ok)
			}
		}
	}
}

// Every word of bytes that are zero, a part of a name, or no part of one.
func TestReadEntryForEachMixture(t *testing.T) {
	bytes := []byte{0, 'a', '9', 'A'}
	for mixture := range 1 << 14 {
		word := []byte{4}
		for at := range 7 {
			word = append(word, bytes[mixture>>(2*at)%4])
		}
		want, ok := entryIn(string(word))
		checkReadEntry(t, string(word), want, ok)
	}
}

func TestReadEntryForOtherLengths(t *testing.T) {
	for _, long := range []string{"\x03ab\x00\x00\x00\x00\x00\x00\x00\x00", "\x03abcdefg\x00\x00", "\x05abcdefghij", "\x03a\x00\x00\x00\x00\x00\x00\x03b\x00\x00\x00\x00\x00\x00", strings.Repeat("\x00", 20)} {
		for length := range len(long) + 1 {
			if length != 8 {
				checkReadEntry(t, long[:length], impl.Entry{}, false)
			}
		}
	}
	checkReadEntry(t, "\x03"+strings.Repeat("a", 1000), impl.Entry{}, false)
	checkReadEntry(t, "\x03a"+strings.Repeat("\x00", 1000), impl.Entry{}, false)
}

func TestPagesForSizes(t *testing.T) {
	for _, c := range []struct{ size, want int }{
		{0, 0}, {1, 1}, {2, 1}, {31, 1}, {32, 1}, {33, 2}, {63, 2}, {64, 2}, {65, 3}, {96, 3}, {97, 4}, {127, 4}, {128, 4}, {129, 5},
		{1 << 32, 1 << 27}, {1<<32 + 1, 1<<27 + 1}, {1 << 62, 1 << 57}, {math.MaxInt - 31, 1<<58 - 1}, {math.MaxInt - 30, 1 << 58}, {math.MaxInt - 1, 1 << 58}, {math.MaxInt, 1 << 58},
		{-1, 0}, {-31, 0}, {-32, 0}, {-33, 0}, {-64, 0}, {-128, 0}, {math.MinInt, 0}, {math.MinInt + 1, 0}, {math.MinInt + 31, 0}, {math.MinInt + 32, 0},
	} {
		checkPagesFor(t, c.size, c.want)
	}
	pages := 0
	for size := range 5000 {
		if size > 32*pages {
			pages++
		}
		checkPagesFor(t, size, pages)
		checkPagesFor(t, -size, 0)
	}
}

func TestKnownInodes(t *testing.T) {
	for _, c := range knownInodes {
		checkValidInode(t, c.n, c.words)
		if n, ok := inodeIn(c.words); !ok || !sameInode(n, c.n) {
			t.Errorf("the tests take %q for the words of %#v", c.words, n)
		}
	}
}

func TestGensOfEachKind(t *testing.T) {
	for _, base := range []impl.Inode{{}, fileOf(), fileOf(someRecs(4)...), dirOf(), dirOf(someEntries(6)...)} {
		for _, gen := range []int{0, 1, 255, 256, 257, 32767, 32768, 65534, 65535} {
			n := inodeCopy(base)
			n.Gen = gen
			checkValidInode(t, n, writtenInode(n))
		}
		for _, gen := range append([]int{-1, 65536, 65537, 131071, 131072}, numbersTooFar...) {
			n := inodeCopy(base)
			n.Gen = gen
			checkInvalidInode(t, n)
		}
	}
}

func TestKindsThatThereAreNot(t *testing.T) {
	for _, base := range append([]impl.Inode{{}, fileOf(), fileOf(someRecs(1)...), dirOf(), dirOf(someEntries(1)...)}, validInodes(20)...) {
		for _, kind := range append([]int{-1, 3, 4, 255, 256, 257, 258}, numbersTooFar...) {
			n := inodeCopy(base)
			n.Kind = kind
			checkInvalidInode(t, n)
		}
	}
}

func TestFreeInodesWithOtherFields(t *testing.T) {
	for _, gen := range []int{0, 1, 65535} {
		checkValidInode(t, impl.Inode{Gen: gen, Recs: []impl.Rec{}, Entries: []impl.Entry{}}, writtenInode(impl.Inode{Gen: gen}))
		for _, n := range []impl.Inode{
			{Size: 1}, {Size: -1}, {Size: 32}, {Size: 128}, {Size: 65536}, {Size: math.MinInt}, {Size: math.MaxInt}, {Key: "12345678"}, {Key: "1"}, {Key: zeroWord}, {Key: "\x00"},
			{Recs: someRecs(1)}, {Recs: []impl.Rec{{}}}, {Recs: someRecs(4)}, {Entries: someEntries(1)}, {Entries: []impl.Entry{{}}}, {Entries: someEntries(6)},
			{Size: 1, Key: "12345678", Recs: someRecs(1)}, {Key: "12345678", Recs: someRecs(1), Entries: someEntries(1)},
		} {
			n.Gen = gen
			checkInvalidInode(t, n)
		}
	}
}

// Files of every size, with as many Recs as they need, and with too few or too many.
func TestFilesOfEachSize(t *testing.T) {
	for size := -40; size <= 300; size++ {
		for recs := range 12 {
			n := fileOf(someRecs(recs)...)
			n.Size = size
			if size >= 0 && size <= 128 && recs == (size+31)/32 {
				checkValidInode(t, n, writtenInode(n))
			} else {
				checkInvalidInode(t, n)
			}
		}
	}
	for _, size := range append([]int{65535, 65536, 65568, 65664}, numbersTooFar...) {
		for recs := range 6 {
			n := fileOf(someRecs(recs)...)
			n.Size = size
			checkInvalidInode(t, n)
		}
	}
}

func TestFilesWithOtherFields(t *testing.T) {
	for recs := range 5 {
		for _, key := range []string{"", "1", "1234567", "123456789", "1234567812345678", zeroWord[:7], zeroWord + "\x00", strings.Repeat("k", 264)} {
			n := fileOf(someRecs(recs)...)
			n.Key = key
			checkInvalidInode(t, n)
		}
		for _, key := range []string{zeroWord, "\xff\xff\xff\xff\xff\xff\xff\xff", "abc\x00\x00\x00\x00\x00", "\u00e9\u00e9\u00e9\u00e9"} {
			n := fileOf(someRecs(recs)...)
			n.Key = key
			checkValidInode(t, n, writtenInode(n))
		}
		for _, entries := range [][]impl.Entry{someEntries(1), {{}}, someEntries(6), someEntries(7)} {
			n := fileOf(someRecs(recs)...)
			n.Entries = entries
			checkInvalidInode(t, n)
		}
	}
}

func TestFilesWithBadRecs(t *testing.T) {
	for recs := 1; recs <= 4; recs++ {
		for i := range recs {
			for _, bad := range badRecs() {
				n := fileOf(someRecs(recs)...)
				n.Recs[i] = bad
				checkInvalidInode(t, n)
			}
			for k := range i {
				n := fileOf(someRecs(recs)...)
				n.Recs[i].Page = n.Recs[k].Page
				checkInvalidInode(t, n)
				n = fileOf(someRecs(recs)...)
				n.Recs[i] = n.Recs[k]
				checkInvalidInode(t, n)
				n.Recs[i].Page = 1
				checkValidInode(t, n, writtenInode(n))
			}
		}
	}
}

// Every list of four pages around the ends of the range: they are valid if they are in it and distinct.
func TestFilesWithEachListOfPages(t *testing.T) {
	pages := []int{0, 1, 2, 6, 11, 12, 13}
	for picked := range 7 * 7 * 7 * 7 {
		n, seen, ok := fileOf(someRecs(4)...), map[int]bool{}, true
		for i := range n.Recs {
			page := pages[picked%7]
			picked /= 7
			ok = ok && page >= 1 && page <= 12 && !seen[page]
			seen[page], n.Recs[i].Page = true, page
		}
		if ok {
			checkValidInode(t, n, writtenInode(n))
		} else {
			checkInvalidInode(t, n)
		}
	}
}

func TestDirectoriesWithOtherFields(t *testing.T) {
	for entries := range 7 {
		n := dirOf(someEntries(entries)...)
		checkValidInode(t, n, writtenInode(n))
		for _, size := range []int{1, -1, 32, 128, 65536, math.MinInt, math.MaxInt} {
			n := dirOf(someEntries(entries)...)
			n.Size = size
			checkInvalidInode(t, n)
		}
		for _, key := range []string{"12345678", zeroWord, "\x00", "1", "123456789"} {
			n := dirOf(someEntries(entries)...)
			n.Key = key
			checkInvalidInode(t, n)
		}
		for _, recs := range [][]impl.Rec{someRecs(1), {{}}, someRecs(4)} {
			n := dirOf(someEntries(entries)...)
			n.Recs = recs
			checkInvalidInode(t, n)
		}
	}
}

func TestDirectoriesOfManyEntries(t *testing.T) {
	entries := []impl.Entry{}
	for name := 'a'; name <= 'z'; name++ {
		if len(entries) <= 6 {
			n := dirOf(slices.Clone(entries)...)
			checkValidInode(t, n, writtenInode(n))
		} else {
			checkInvalidInode(t, dirOf(slices.Clone(entries)...))
		}
		entries = append(entries, impl.Entry{Inode: 2, Name: string(name)})
	}
}

func TestDirectoriesWithBadEntries(t *testing.T) {
	for entries := 1; entries <= 6; entries++ {
		for i := range entries {
			for _, bad := range badEntries() {
				n := dirOf(someEntries(entries)...)
				n.Entries[i] = bad
				checkInvalidInode(t, n)
				// A bad name may also be wrong because of the order, unless it is the only one.
				checkInvalidInode(t, dirOf(bad))
			}
			for _, inode := range []int{1, 2, 3, 4, 5} {
				n := dirOf(someEntries(entries)...)
				n.Entries[i].Inode = inode
				checkValidInode(t, n, writtenInode(n))
			}
		}
	}
}

// Every list of up to three names, of which some are prefixes of others, at the beginning and at the end of a directory.
func TestDirectoriesWithEachOrderOfNames(t *testing.T) {
	// Bytewise ascending.
	names := []string{"0", "00", "10", "9", "a", "a0", "aa", "aaaaaaa", "ab", "b", "zzzzzzz"}
	entry := func(i int) impl.Entry { return impl.Entry{Inode: 1 + i%5, Name: names[i]} }
	for i := range names {
		for k := range names {
			for l := range names {
				n, shorter := dirOf(entry(i), entry(k), entry(l)), dirOf(entry(k), entry(l))
				if i < k && k < l {
					checkValidInode(t, n, writtenInode(n))
				} else {
					checkInvalidInode(t, n)
				}
				if k < l {
					checkValidInode(t, shorter, writtenInode(shorter))
				} else {
					checkInvalidInode(t, shorter)
				}
			}
		}
	}
}

// Every combination of kinds, sizes, gens, keys and lists (not of two long ones); an inode is valid if all its fields are, for its kind.
func TestInodesOfEachCombination(t *testing.T) {
	recLists, entryLists := recLists(), entryLists()
	valid := 0
	for _, recs := range recLists {
		for _, entries := range entryLists {
			noFile, noDir := len(recs.list) == 0, len(entries.list) == 0
			if !noFile && !noDir && len(recs.list)+len(entries.list) > 6 {
				continue
			}
			for _, kind := range []int{-1, 0, 1, 2, 3} {
				for _, size := range []int{0, 1, 33, 96, 128, 129} {
					for _, key := range []string{"", "1234567", "12345678"} {
						for _, gen := range []int{65535, 65536} {
							pages := (size + 31) / 32
							ok := kind == 0 && size == 0 && key == "" && noFile && noDir ||
								kind == 1 && size <= 128 && len(key) == 8 && recs.ok && pages == len(recs.list) && noDir ||
								kind == 2 && size == 0 && key == "" && noFile && entries.ok
							ok = ok && gen == 65535
							n := impl.Inode{Kind: kind, Size: size, Gen: gen, Key: key, Recs: recs.list, Entries: entries.list}
							if impl.InodeOk(n) != ok {
								t.Fatalf("InodeOk(%#v): want %v", n, ok)
							}
							if ok {
								valid++
								checkValidInode(t, n, writtenInode(n))
							}
						}
					}
				}
			}
		}
	}
	// A free inode, files of 0, 1, 33, 96 and 128 bytes, directories of up to 6 entries.
	if valid != 1+5+7 {
		t.Errorf("%d combinations are valid, want 13", valid)
	}
}

func TestRandomInodesComeBack(t *testing.T) {
	for _, n := range validInodes(3000) {
		checkValidInode(t, n, writtenInode(n))
		if !checkAsWritten(t, writtenInode(n)) {
			t.Errorf("%#v is not valid for the tests", n)
		}
	}
}

func TestReadInodeOfWordsChangedByHand(t *testing.T) {
	file, dir := knownInodes[6], knownInodes[9]
	for _, c := range []struct {
		at   int
		word string
		n    impl.Inode
	}{
		{0, "\x01\x00\x40\x00\x01\x00\x00\x00", impl.Inode{Kind: 1, Size: 64, Gen: 1, Key: "12345678", Recs: file.n.Recs}},
		{0, "\x01\x00\x21\x02\x01\x00\x00\x00", impl.Inode{Kind: 1, Size: 33, Gen: 513, Key: "12345678", Recs: file.n.Recs}},
		{1, "1234567\x00", impl.Inode{Kind: 1, Size: 33, Gen: 1, Key: "1234567\x00", Recs: file.n.Recs}},
		{1, zeroWord, impl.Inode{Kind: 1, Size: 33, Gen: 1, Key: zeroWord, Recs: file.n.Recs}},
		{2, "\x0c\x00\x01\x02abce", impl.Inode{Kind: 1, Size: 33, Gen: 1, Key: "12345678", Recs: []impl.Rec{{Page: 12, Serial: 258, Mark: "abce"}, file.n.Recs[1]}}},
		{3, "\x03\x01\x00\x00\x00\x00\x00\x00", impl.Inode{Kind: 1, Size: 33, Gen: 1, Key: "12345678", Recs: []impl.Rec{file.n.Recs[0], {Page: 3, Serial: 65536, Mark: "\x00\x00\x00\x00"}}}},
	} {
		words := slices.Clone(file.words)
		words[c.at] = c.word
		checkReadInode(t, words, c.n, true)
	}
	for _, c := range []struct {
		at   int
		word string
	}{
		{0, "\x00\x00\x21\x00\x01\x00\x00\x00"}, {0, "\x02\x00\x21\x00\x01\x00\x00\x00"}, {0, "\x02\x00\x00\x00\x01\x00\x00\x00"}, {0, "\x03\x00\x21\x00\x01\x00\x00\x00"}, {0, "\xff\x00\x21\x00\x01\x00\x00\x00"},
		{0, "\x01\x00\x00\x00\x01\x00\x00\x00"}, {0, "\x01\x00\x20\x00\x01\x00\x00\x00"}, {0, "\x01\x00\x41\x00\x01\x00\x00\x00"}, {0, "\x01\x01\x21\x00\x01\x00\x00\x00"}, {0, "\x01\xff\xff\x00\x01\x00\x00\x00"},
		{0, "\x01\x00\x21\x00\x01\x01\x00\x00"}, {0, "\x01\x00\x21\x00\x01\x00\x01\x00"}, {0, "\x01\x00\x21\x00\x01\x00\x00\x01"}, {0, zeroWord},
		{2, "\x01\x00\x01\x02abcd"}, {2, "\x00\x00\x01\x02abcd"}, {2, "\x0d\x00\x01\x02abcd"}, {2, "\x02\x00\x00\x00abcd"}, {2, zeroWord}, {3, zeroWord}, {3, "\x02\x00\x00\x01efgh"}, {3, "\x01\x00\x00\x00efgh"},
		{4, "\x03\x00\x00\x01ijkl"}, {5, "\x03\x00\x00\x01ijkl"}, {7, "\x03\x00\x00\x01ijkl"}, {4, "\x00\x00\x00\x00\x00\x00\x00\x01"}, {7, "\x00\x00\x00\x00\x00\x00\x00\x01"}, {6, "\x03ab\x00\x00\x00\x00\x00"},
	} {
		words := slices.Clone(file.words)
		words[c.at] = c.word
		checkNoInode(t, words)
	}
	two := impl.Inode{Kind: 2, Gen: 256, Entries: []impl.Entry{{Inode: 3, Name: "ab"}, {Inode: 1, Name: "abc"}}}
	for _, c := range []struct {
		at   int
		word string
		n    impl.Inode
		ok   bool
	}{
		{3, "\x01abc\x00\x00\x00\x00", two, true},
		{2, zeroWord, impl.Inode{Kind: 2, Gen: 256}, true},
		{3, "\x01ab\x00\x00\x00\x00\x00", impl.Inode{}, false},
		{3, "\x01aa\x00\x00\x00\x00\x00", impl.Inode{}, false},
		{3, "\x00abc\x00\x00\x00\x00", impl.Inode{}, false},
		{3, "\x06abc\x00\x00\x00\x00", impl.Inode{}, false},
		{4, "\x01abc\x00\x00\x00\x00", impl.Inode{}, false},
		{7, "\x01abc\x00\x00\x00\x00", impl.Inode{}, false},
		{7, "\x00\x00\x00\x00\x00\x00\x00\x01", impl.Inode{}, false},
		{3, "\x03\x00\x00\x01ijkl", impl.Inode{}, false},
		{1, "12345678", impl.Inode{}, false},
		{1, "\x00\x00\x00\x00\x00\x00\x00\x01", impl.Inode{}, false},
		{0, "\x02\x00\x01\x01\x00\x00\x00\x00", impl.Inode{}, false},
		{0, "\x02\x01\x00\x01\x00\x00\x00\x00", impl.Inode{}, false},
		{0, "\x00\x00\x00\x01\x00\x00\x00\x00", impl.Inode{}, false},
		{0, "\x01\x00\x00\x01\x00\x00\x00\x00", impl.Inode{}, false},
	} {
		words := slices.Clone(dir.words)
		words[c.at] = c.word
		checkReadInode(t, words, c.n, c.ok)
	}
}

// Words of a free inode become those of a file with a zero key or of an empty directory if only the kind is changed.
func TestReadInodeOfFreeWordsWithAnotherKind(t *testing.T) {
	for kind := range 256 {
		words := slices.Clone(knownInodes[1].words)
		words[0] = encodedNumber(kind, 1) + words[0][1:]
		switch kind {
		case 0, 2:
			checkReadInode(t, words, impl.Inode{Kind: kind, Gen: 258}, true)
		case 1:
			checkReadInode(t, words, impl.Inode{Kind: kind, Gen: 258, Key: zeroWord}, true)
		default:
			checkNoInode(t, words)
		}
	}
}

// Each byte of each word is given every value in turn.
func TestReadInodeForEachByte(t *testing.T) {
	for i, n := range validInodes(30) {
		words := writtenInode(n)
		still := 0
		for k, word := range words {
			for at := range 8 {
				for b := range 256 {
					words[k] = word[:at] + encodedNumber(b, 1) + word[at+1:]
					if checkAsWritten(t, words) {
						still++
					}
				}
			}
			words[k] = word
		}
		// Each of the 64 bytes has its own value once, and the two bytes of the gen may have any.
		if still < 64+2*255 {
			t.Errorf("inode %d: only %d of its changed words are valid", i, still)
		}
	}
}

func TestReadInodeForBytesChangedAtRandom(t *testing.T) {
	source := rand.New(rand.NewSource(14))
	for _, n := range validInodes(2000) {
		words := writtenInode(n)
		for range 1 + source.Intn(4) {
			k, at := source.Intn(8), source.Intn(8)
			words[k] = words[k][:at] + encodedNumber(source.Intn(256)>>source.Intn(8), 1) + words[k][at+1:]
			checkAsWritten(t, words)
		}
	}
}

// Every choice of six words among zero words, Recs and Entries, behind heads of all kinds and keys.
func TestReadInodeForEachChoiceOfWords(t *testing.T) {
	choices := []string{zeroWord, "\x01\x00\x00\x01aaaa", "\x0c\x00\x02\x01bbbb", "\x02a\x00\x00\x00\x00\x00\x00", "\x03a1\x00\x00\x00\x00\x00"}
	heads := []string{"\x00\x00\x00\x00\x05\x00\x00\x00", "\x01\x00\x00\x00\x05\x00\x00\x00", "\x01\x00\x1f\x00\x05\x00\x00\x00", "\x01\x00\x40\x00\x05\x00\x00\x00", "\x02\x00\x00\x00\x05\x00\x00\x00"}
	for picked := range 5 * 5 * 5 * 5 * 5 * 5 {
		words := []string{"", ""}
		for range 6 {
			words = append(words, choices[picked%5])
			picked /= 5
		}
		for _, head := range heads {
			for _, key := range []string{zeroWord, "12345678"} {
				words[0], words[1] = head, key
				checkAsWritten(t, words)
			}
		}
	}
}

// Words that follow a zero word belong to no inode, whether it was put there or was one of the remaining words.
func TestReadInodeOfWordsBehindAZeroWord(t *testing.T) {
	for _, n := range validInodes(100) {
		words := writtenInode(n)
		for i := 2; i < 8; i++ {
			if words[i] != zeroWord {
				changed := slices.Clone(words)
				changed[i] = zeroWord
				checkAsWritten(t, changed)
				// Without its last word, a directory is still one.
				if i < 7 && words[i+1] != zeroWord {
					checkNoInode(t, changed)
				}
				continue
			}
			for k := max(i, 3); k < 8; k++ {
				if words[k-1] != zeroWord {
					continue
				}
				for _, word := range []string{"\x0b\x00\x00\x01zzzz", "\x05zzzzzzz", "\x00\x00\x00\x00\x00\x00\x00\x01", "\x01\x00\x00\x00\x00\x00\x00\x00", "12345678"} {
					changed := slices.Clone(words)
					changed[k] = word
					checkNoInode(t, changed)
				}
			}
		}
	}
}

func TestReadInodeOfOtherNumbersOfWords(t *testing.T) {
	checkNoInode(t, nil)
	checkNoInode(t, []string{})
	for _, n := range validInodes(50) {
		words := writtenInode(n)
		checkReadInode(t, words, n, true)
		for length := range 8 {
			checkNoInode(t, words[:length])
			checkNoInode(t, words[length+1:])
			checkNoInode(t, slices.Delete(slices.Clone(words), length, length+1))
			checkNoInode(t, slices.Insert(slices.Clone(words), length, zeroWord))
			checkNoInode(t, slices.Insert(slices.Clone(words), length, ""))
		}
		for _, more := range []string{zeroWord, "", "\x0b\x00\x00\x01zzzz", "\x05zzzzzzz", "12345678"} {
			checkNoInode(t, append(slices.Clone(words), more))
		}
		checkNoInode(t, slices.Concat(words, words))
		checkNoInode(t, []string{strings.Join(words, "")})
	}
}

func TestReadInodeOfWordsOfOtherLengths(t *testing.T) {
	for _, n := range validInodes(30) {
		words := writtenInode(n)
		for i, word := range words {
			for length := range 8 {
				words[i] = word[:length]
				checkNoInode(t, words)
				words[i] = word[length+1:]
				checkNoInode(t, words)
			}
			for _, longer := range []string{word + "\x00", word + zeroWord, word + "a", "\x00" + word, zeroWord + word, word + strings.Repeat("\x00", 1000)} {
				words[i] = longer
				checkNoInode(t, words)
			}
			words[i] = word
			if i > 0 {
				// The bytes are all there, but they are divided in another way.
				moved := slices.Clone(words)
				moved[i-1], moved[i] = words[i-1][:7], words[i-1][7:]+word
				checkNoInode(t, moved)
				moved[i-1], moved[i] = words[i-1]+word[:1], word[1:]
				checkNoInode(t, moved)
				moved[i-1], moved[i] = words[i-1]+word, ""
				checkNoInode(t, moved)
			}
		}
		checkReadInode(t, words, n, true)
	}
	checkNoInode(t, make([]string, 8))
}

func TestReadInodeOfRandomWords(t *testing.T) {
	source := rand.New(rand.NewSource(15))
	for range 5000 {
		words := []string{}
		for range 8 {
			words = append(words, randomText(source, 8))
		}
		checkAsWritten(t, words)
		words[0] = encodedNumber(source.Intn(4), 1) + "\x00" + words[0][2:5] + "\x00\x00\x00"
		checkAsWritten(t, words)
	}
}

// Different inodes have different words, as they could not be decoded otherwise.
func TestDifferentInodesHaveDifferentWords(t *testing.T) {
	seen := map[string]impl.Inode{}
	for _, n := range validInodes(2000) {
		text := strings.Join(impl.InodeWords(n), "")
		if other, ok := seen[text]; len(text) != 64 || ok && !sameInode(n, other) {
			t.Errorf("%#v and %#v have the words %q", n, other, text)
		}
		seen[text] = n
	}
}

// All inodes of a memory are read back from their places in it.
func TestInodesStoredAtTheirPlaces(t *testing.T) {
	g := impl.Geo{Tenants: 3, Pages: 12, Inodes: 6, Quota: 8}
	m, stored := impl.MemoryNew(impl.LinesIn(g)), validInodes(7)
	for i, n := range stored {
		for k, word := range impl.InodeWords(n) {
			m = impl.StoreWord(m, impl.InodeAt(g, i/6, i%6)+k, word)
		}
	}
	if len(stored) != 18 {
		t.Errorf("%d inodes are stored, want 18", len(stored))
	}
	for i, n := range stored {
		words := []string{}
		for at := impl.InodeAt(g, i/6, i%6); len(words) < 8; at++ {
			words = append(words, impl.WordAt(m, at))
		}
		checkReadInode(t, words, n, true)
	}
}

// An inode that comes up again is treated as it was before, whatever was done to other ones in between.
func TestInodesOfLaterCalls(t *testing.T) {
	for range 3 {
		for _, c := range knownInodes {
			checkValidInode(t, c.n, c.words)
			checkInvalidInode(t, impl.Inode{Kind: 3})
			checkNoInode(t, c.words[1:])
			checkReadRec(t, "\x0c\x00\x01\x02abcd", impl.Rec{Page: 12, Serial: 258, Mark: "abcd"}, true)
			checkReadRec(t, zeroWord, impl.Rec{}, false)
			checkReadEntry(t, "\x04ab\x00\x00\x00\x00\x00", impl.Entry{Inode: 4, Name: "ab"}, true)
			checkReadEntry(t, zeroWord, impl.Entry{}, false)
		}
	}
}

// amongOthers returns the list as a part of a longer one, and that one, which has others ahead and as spare capacity.
func amongOthers[T any](list []T, other T) ([]T, []T) {
	whole := append([]T{other, other}, list...)
	whole = append(whole, other, other, other)
	return whole[2 : 2+len(list)], whole
}

// overwrite changes a list with its spare capacity.
func overwrite[T any](list []T, other T) {
	all := list[:cap(list)]
	for i := range all {
		all[i] = other
	}
}

func TestInodesAreLeftAsTheyAre(t *testing.T) {
	inodes := validInodes(200)
	for _, n := range validInodes(50) {
		n.Gen = -1
		inodes = append(inodes, n)
	}
	inodes = append(inodes, impl.Inode{Kind: 1, Size: 64, Key: "12345678", Recs: []impl.Rec{someRecs(1)[0], someRecs(1)[0]}}, dirOf(someEntries(6)[3], someEntries(1)[0]), dirOf(someEntries(7)...))
	for _, n := range inodes {
		recs, allRecs := amongOthers(n.Recs, impl.Rec{Page: 77, Serial: 77, Mark: "none"})
		entries, allEntries := amongOthers(n.Entries, impl.Entry{Inode: 77, Name: "none"})
		oldRecs, oldEntries := slices.Clone(allRecs), slices.Clone(allEntries)
		given := n
		given.Recs, given.Entries = recs, entries
		impl.InodeOk(given)
		words := impl.InodeWords(given)
		kept := slices.Clone(words)
		overwrite(impl.InodeWords(given), "changed ")
		if !slices.Equal(words, kept) {
			t.Fatalf("two results of InodeWords(%#v) share memory", n)
		}
		overwrite(words, "changed ")
		if !slices.Equal(allRecs, oldRecs) || !slices.Equal(allEntries, oldEntries) || !sameInode(given, n) {
			t.Fatalf("%#v has changed", n)
		}
	}
}

func TestWordsAreLeftAsTheyAre(t *testing.T) {
	for _, n := range validInodes(200) {
		for _, given := range [][]string{writtenInode(n), append(writtenInode(n)[:7], "another "), writtenInode(n)[:7]} {
			part, whole := amongOthers(given, "none    ")
			before := slices.Clone(whole)
			one, _ := impl.ReadInode(part)
			other, _ := impl.ReadInode(part)
			kept := inodeCopy(one)
			overwrite(other.Recs, impl.Rec{Page: 99})
			overwrite(other.Entries, impl.Entry{Inode: 99})
			if !slices.Equal(whole, before) {
				t.Fatalf("ReadInode(%q) has changed its words", given)
			}
			overwrite(whole, "changed ")
			if !sameInode(one, kept) {
				t.Fatalf("results of ReadInode(%q) share memory", given)
			}
		}
	}
}

// inodeTexts are the texts of an inode.
func inodeTexts(n impl.Inode) []string {
	texts := []string{n.Key}
	for _, r := range n.Recs {
		texts = append(texts, r.Mark)
	}
	for _, e := range n.Entries {
		texts = append(texts, e.Name)
	}
	return texts
}

// checkTextsNew wants the texts of a result to lie apart from one another and from the given ones.
func checkTextsNew(t *testing.T, what string, texts []string, given []string) {
	t.Helper()
	checkTextsApart(t, what, texts, given)
	for i, text := range texts {
		checkTextsApart(t, what+" and itself", []string{text}, texts[:i])
	}
}

func TestTextsOfInodesAreNew(t *testing.T) {
	for _, n := range validInodes(50) {
		words := impl.InodeWords(n)
		checkTextsNew(t, "InodeWords", words, inodeTexts(n))
		back, _ := impl.ReadInode(words)
		again, _ := impl.ReadInode(words)
		checkTextsNew(t, "ReadInode", inodeTexts(back), append(inodeTexts(again), words...))
		for _, r := range n.Recs {
			word := impl.RecWord(r)
			checkTextsNew(t, "RecWord", []string{word}, []string{r.Mark})
			got, _ := impl.ReadRec(word)
			checkTextsNew(t, "ReadRec", []string{got.Mark}, []string{word})
		}
		for _, e := range n.Entries {
			word := impl.EntryWord(e)
			checkTextsNew(t, "EntryWord", []string{word}, []string{e.Name})
			got, _ := impl.ReadEntry(word)
			checkTextsNew(t, "ReadEntry", []string{got.Name}, []string{word})
		}
	}
}
