package tests

import (
	"math"
	"math/rand"
	"slices"
	"strconv"
	"strings"
	"testing"

	"loop.example/g00969/impl"
)

// storedPart is a partition with the layout that it is for.
type storedPart struct {
	g impl.Geo
	p impl.Part
}

// knownParts are valid ones with their words written out, so that no other code is needed to check these. The words of the states and the inodes are those from first on; the ones that are not in the table are zero.
var knownParts = []struct {
	g            impl.Geo
	tenant       int
	p            impl.Part
	serialAt     int
	serial       string
	first, count int
	words        map[int]string
}{
	{
		impl.Geo{Tenants: 1, Pages: 5, Inodes: 2, Quota: 1}, 0,
		impl.Part{States: []int{0, 0, 0, 0, 0}, Inodes: []impl.Inode{{Kind: impl.InDir, Gen: 1}, {}}},
		2, zeroWord, 36, 18, map[int]string{38: "\x02\x00\x00\x00\x01\x00\x00\x00"},
	},
	{
		impl.Geo{Tenants: 2, Pages: 8, Inodes: 4, Quota: 3}, 0,
		impl.Part{Serial: 1, States: []int{0, 0, 0, 0, 0, 0, 0, 0}, Inodes: []impl.Inode{{Kind: impl.InDir, Gen: 1, Entries: []impl.Entry{{Inode: 1, Name: "a"}}}, {Kind: impl.InDir, Gen: 1}, {}, {}}},
		2, "\x00\x00\x01\x00\x00\x00\x00\x00", 36, 34,
		map[int]string{38: "\x02\x00\x00\x00\x01\x00\x00\x00", 40: "\x01a\x00\x00\x00\x00\x00\x00", 46: "\x02\x00\x00\x00\x01\x00\x00\x00"},
	},
	{
		impl.Geo{Tenants: 2, Pages: 8, Inodes: 4, Quota: 3}, 1,
		impl.Part{Serial: 66051, States: []int{2, 0, 1, 2, 0, 0, 0, 1}, Inodes: []impl.Inode{
			{Kind: impl.InDir, Gen: 1, Entries: []impl.Entry{{Inode: 1, Name: "docs"}}},
			{Kind: impl.InDir, Gen: 258, Entries: []impl.Entry{{Inode: 3, Name: "a1"}}},
			{Gen: 772},
			{Kind: impl.InFile, Size: 33, Gen: 5, Key: "12345678", Recs: []impl.Rec{{Page: 4, Serial: 258, Mark: "abcd"}, {Page: 1, Serial: 1, Mark: "efgh"}}},
		}},
		104, "\x01\x02\x03\x00\x00\x00\x00\x00", 138, 34,
		map[int]string{
			138: "\x02\x00\x01\x02\x00\x00\x00\x01", 140: "\x02\x00\x00\x00\x01\x00\x00\x00", 142: "\x01docs\x00\x00\x00", 148: "\x02\x00\x00\x01\x02\x00\x00\x00", 150: "\x03a1\x00\x00\x00\x00\x00",
			156: "\x00\x00\x00\x03\x04\x00\x00\x00", 164: "\x01\x00\x21\x00\x05\x00\x00\x00", 165: "12345678", 166: "\x04\x00\x01\x02abcd", 167: "\x01\x00\x00\x01efgh",
		},
	},
	{
		impl.Geo{Tenants: 3, Pages: 12, Inodes: 6, Quota: 8}, 2,
		impl.Part{Serial: 16777215, States: []int{2, 2, 2, 2, 2, 2, 2, 2, 1, 0, 1, 0}, Inodes: []impl.Inode{
			{Kind: impl.InDir, Gen: 1, Entries: []impl.Entry{{Inode: 5, Name: "0"}, {Inode: 1, Name: "z9"}}},
			{Kind: impl.InDir, Gen: 65535, Entries: []impl.Entry{{Inode: 4, Name: "f"}}},
			{Gen: 65535},
			{Kind: impl.InFile, Size: 128, Gen: 772, Key: "key\x00\xff\x80 +", Recs: []impl.Rec{{Page: 4, Serial: 16777215, Mark: "\xff\xff\xff\xff"}, {Page: 1, Serial: 256, Mark: "1234"}, {Page: 3, Serial: 65536, Mark: "5678"}, {Page: 2, Serial: 7, Mark: "90ab"}}},
			{Kind: impl.InFile, Size: 97, Gen: 1, Key: zeroWord, Recs: []impl.Rec{{Page: 8, Serial: 1, Mark: zeroWord[:4]}, {Page: 7, Serial: 2, Mark: "b\x00\x00b"}, {Page: 6, Serial: 3, Mark: "cccc"}, {Page: 5, Serial: 4, Mark: "dddd"}}},
			{Kind: impl.InDir, Gen: 256, Entries: []impl.Entry{{Inode: 3, Name: "zzzzzz9"}}},
		}},
		270, "\xff\xff\xff\x00\x00\x00\x00\x00", 304, 50,
		map[int]string{
			304: "\x02\x02\x02\x02\x02\x02\x02\x02", 305: "\x01\x00\x01\x00\x00\x00\x00\x00", 306: "\x02\x00\x00\x00\x01\x00\x00\x00", 308: "\x050\x00\x00\x00\x00\x00\x00", 309: "\x01z9\x00\x00\x00\x00\x00",
			314: "\x02\x00\x00\xff\xff\x00\x00\x00", 316: "\x04f\x00\x00\x00\x00\x00\x00", 322: "\x00\x00\x00\xff\xff\x00\x00\x00",
			330: "\x01\x00\x80\x03\x04\x00\x00\x00", 331: "key\x00\xff\x80 +", 332: "\x04\xff\xff\xff\xff\xff\xff\xff", 333: "\x01\x00\x01\x001234", 334: "\x03\x01\x00\x005678", 335: "\x02\x00\x00\x0790ab",
			338: "\x01\x00\x61\x00\x01\x00\x00\x00", 340: "\x08\x00\x00\x01\x00\x00\x00\x00", 341: "\x07\x00\x00\x02b\x00\x00b", 342: "\x06\x00\x00\x03cccc", 343: "\x05\x00\x00\x04dddd",
			346: "\x02\x00\x00\x01\x00\x00\x00\x00", 348: "\x03zzzzzz9",
		},
	},
}

// The least and the greatest layout, and one between them.
var (
	leastGeo    = impl.Geo{Tenants: 1, Pages: 5, Inodes: 2, Quota: 1}
	middleGeo   = impl.Geo{Tenants: 2, Pages: 8, Inodes: 4, Quota: 3}
	greatestGeo = impl.Geo{Tenants: 3, Pages: 12, Inodes: 6, Quota: 8}
)

func samePart(a impl.Part, b impl.Part) bool {
	return a.Serial == b.Serial && slices.Equal(a.States, b.States) && slices.EqualFunc(a.Inodes, b.Inodes, sameInode)
}

// partCopy shares no slice with p.
func partCopy(p impl.Part) impl.Part {
	p.States, p.Inodes = slices.Clone(p.States), slices.Clone(p.Inodes)
	for i, n := range p.Inodes {
		p.Inodes[i] = inodeCopy(n)
	}
	return p
}

// partStart is where the partition of a tenant begins, from the numbers that the specification gives.
func partStart(g impl.Geo, tenant int) int { return tenant * (38 + 8*g.Inodes + 4*g.Pages) }

func writtenSerial(n int) string { return encodedNumber(n, 3) + "\x00\x00\x00\x00\x00" }

// writtenPart puts the words of a partition together, which has to have states and inodes that are valid each on its own.
func writtenPart(g impl.Geo, tenant int, p impl.Part) []impl.Write {
	words := writtenStates(p.States)
	for _, n := range p.Inodes {
		words = append(words, writtenInode(n)...)
	}
	writes := []impl.Write{}
	for k, word := range words {
		writes = append(writes, impl.Write{At: partStart(g, tenant) + 36 + k, Word: word})
	}
	return writes
}

// withPart stores the words of a partition, with the serial word.
func withPart(m impl.Memory, g impl.Geo, tenant int, p impl.Part) impl.Memory {
	for _, w := range append(writtenPart(g, tenant, p), impl.Write{At: partStart(g, tenant) + 2, Word: writtenSerial(p.Serial)}) {
		m = impl.StoreWord(m, w.At, w.Word)
	}
	return m
}

// settled makes all lines of a memory durable.
func settled(m impl.Memory) impl.Memory {
	for _, line := range impl.Unsure(m) {
		m = impl.FlushLine(m, line)
	}
	return impl.Fence(m)
}

// noisyMemory has just the lines of a layout, and no word of it is zero.
func noisyMemory(g impl.Geo) impl.Memory {
	return impl.Memory{Kept: strings.Repeat("another word, ..", g.Tenants*(19+4*g.Inodes+2*g.Pages))}
}

// partIn decodes the words of a partition by the letter of the specification.
func partIn(m impl.Memory, g impl.Geo, tenant int) (impl.Part, bool) {
	if !impl.GeoOk(g) || !impl.MemoryOk(m) || tenant < 0 || tenant >= g.Tenants || len(m.Kept) < 8*partStart(g, g.Tenants) {
		return impl.Part{}, false
	}
	start := partStart(g, tenant)
	serial := impl.WordAt(m, start+2)
	states, ok := statesIn([]string{impl.WordAt(m, start+36), impl.WordAt(m, start+37)}, g.Pages)
	if !ok || serial[3:] != "\x00\x00\x00\x00\x00" {
		return impl.Part{}, false
	}
	p := impl.Part{Serial: int(serial[0])<<16 + int(serial[1])<<8 + int(serial[2]), States: states}
	for i := range g.Inodes {
		words := []string{}
		for k := range 8 {
			words = append(words, impl.WordAt(m, start+38+8*i+k))
		}
		n, ok := inodeIn(words)
		if !ok {
			return impl.Part{}, false
		}
		p.Inodes = append(p.Inodes, n)
	}
	return p, true
}

// The requirements of PartOk, each with a name.
const (
	badLayout     = "the layout"
	badSerial     = "the serial number"
	badStates     = "the states"
	badCount      = "the number of inodes"
	badInode      = "an inode that is not valid"
	rootKind      = "inode 0 is no directory"
	rootLink      = "a link to inode 0"
	wrongEntry    = "an entry of an inode that does not exist"
	noLink        = "no link"
	twoLinks      = "two links"
	noWayUp       = "no depth"
	freeLink      = "a link to a free inode"
	noUser        = "a used page without a user"
	twoUsers      = "a used page with two users"
	unusedUser    = "a page with a user that is not used"
	wrongPage     = "a page that does not exist"
	aboveTheQuota = "the quota"
)

// linkFaults are the requirements of the directories that a partition does not meet.
func linkFaults(p impl.Part) []string {
	faults, links, reached := []string{}, map[int]int{}, map[int]bool{0: true}
	for range p.Inodes {
		clear(links)
		for i, n := range p.Inodes {
			for _, e := range n.Entries {
				if n.Kind == impl.InDir {
					links[e.Inode]++
					reached[e.Inode] = reached[e.Inode] || reached[i]
				}
			}
		}
	}
	for i := range links {
		if i < 0 || i >= len(p.Inodes) {
			faults = append(faults, wrongEntry)
		}
	}
	for i, n := range p.Inodes {
		switch {
		case i == 0 && n.Kind != impl.InDir:
			faults = append(faults, rootKind)
		case i == 0 && links[0] > 0:
			faults = append(faults, rootLink)
		case i > 0 && n.Kind == impl.InFree && links[i] > 0:
			faults = append(faults, freeLink)
		case i > 0 && n.Kind != impl.InFree && links[i] == 0:
			faults = append(faults, noLink)
		case i > 0 && n.Kind != impl.InFree && links[i] > 1:
			faults = append(faults, twoLinks)
		case i > 0 && n.Kind != impl.InFree && !reached[i]:
			faults = append(faults, noWayUp)
		}
	}
	return faults
}

// pageFaults are the requirements of the pages that a partition does not meet.
func pageFaults(g impl.Geo, p impl.Part) []string {
	faults, users, used := []string{}, map[int]int{}, 0
	for _, n := range p.Inodes {
		for _, r := range n.Recs {
			if n.Kind == impl.InFile {
				users[r.Page]++
			}
		}
	}
	for number := range users {
		if number < 1 || number > g.Pages {
			faults = append(faults, wrongPage)
		}
	}
	for page, state := range p.States {
		switch count := users[page+1]; {
		case state == impl.PgUsed && count == 0:
			faults = append(faults, noUser)
		case state == impl.PgUsed && count > 1:
			faults = append(faults, twoUsers)
		case state != impl.PgUsed && count > 0:
			faults = append(faults, unusedUser)
		}
		if state == impl.PgUsed {
			used++
		}
	}
	if used > g.Quota {
		faults = append(faults, aboveTheQuota)
	}
	return faults
}

// faultsOf are all the requirements of the specification that a partition does not meet, each once and in order.
func faultsOf(g impl.Geo, p impl.Part) []string {
	faults := append(linkFaults(p), pageFaults(g, p)...)
	if !impl.GeoOk(g) {
		faults = append(faults, badLayout)
	}
	if p.Serial < 0 || p.Serial > 16777215 {
		faults = append(faults, badSerial)
	}
	if !impl.StatesOk(p.States, g.Pages) {
		faults = append(faults, badStates)
	}
	if len(p.Inodes) != g.Inodes {
		faults = append(faults, badCount)
	}
	for _, n := range p.Inodes {
		if !impl.InodeOk(n) {
			faults = append(faults, badInode)
		}
	}
	slices.Sort(faults)
	return slices.Compact(faults)
}

func checkPartNew(t *testing.T, g impl.Geo, want impl.Part) {
	t.Helper()
	if got := impl.PartNew(g); !samePart(got, want) {
		t.Errorf("PartNew(%#v): got %#v, want %#v", g, got, want)
	}
}

func checkLinksTo(t *testing.T, p impl.Part, i int, want int) {
	t.Helper()
	if got := impl.LinksTo(p, i); got != want {
		t.Errorf("LinksTo(%#v, %d): got %d, want %d", p, i, got, want)
	}
}

func checkUsersOf(t *testing.T, p impl.Part, page int, want int) {
	t.Helper()
	if got := impl.UsersOf(p, page); got != want {
		t.Errorf("UsersOf(%#v, %d): got %d, want %d", p, page, got, want)
	}
}

func checkDepthOf(t *testing.T, p impl.Part, i int, want int) {
	t.Helper()
	if got := impl.DepthOf(p, i); got != want {
		t.Errorf("DepthOf(%#v, %d): got %d, want %d", p, i, got, want)
	}
}

// checkDepths wants the depths of inodes 0, 1 and so on, and none of what is no inode.
func checkDepths(t *testing.T, p impl.Part, want ...int) {
	t.Helper()
	for i, depth := range want {
		checkDepthOf(t, p, i, depth)
	}
	for _, i := range append([]int{-1, len(p.Inodes), len(p.Inodes) + 1}, numbersTooFar...) {
		checkDepthOf(t, p, i, -1)
	}
}

func checkPartWrites(t *testing.T, g impl.Geo, tenant int, p impl.Part, want []impl.Write) {
	t.Helper()
	if got := impl.PartWrites(g, tenant, p); !slices.Equal(got, want) {
		t.Errorf("PartWrites(%#v, %d, %#v): got %#v, want %#v", g, tenant, p, got, want)
	}
}

func checkChanged(t *testing.T, g impl.Geo, tenant int, a impl.Part, b impl.Part, want []impl.Write) {
	t.Helper()
	if got := impl.Changed(g, tenant, a, b); !slices.Equal(got, want) {
		t.Errorf("Changed(%#v, %d, %#v, %#v): got %#v, want %#v", g, tenant, a, b, got, want)
	}
}

func checkReadPart(t *testing.T, m impl.Memory, g impl.Geo, tenant int, want impl.Part, wantOk bool) {
	t.Helper()
	if got, ok := impl.ReadPart(m, g, tenant); !samePart(got, want) || ok != wantOk {
		t.Errorf("ReadPart(%s, %#v, %d): got %#v and %v, want %#v and %v", shown(m), g, tenant, got, ok, want, wantOk)
	}
}

func checkNoPart(t *testing.T, m impl.Memory, g impl.Geo, tenant int) {
	t.Helper()
	checkReadPart(t, m, g, tenant, impl.Part{}, false)
}

// checkPartAsStored takes any memory: its words are those of just the partition that partIn finds, or of none.
func checkPartAsStored(t *testing.T, m impl.Memory, g impl.Geo, tenant int) bool {
	t.Helper()
	want, ok := partIn(m, g, tenant)
	checkReadPart(t, m, g, tenant, want, ok)
	return ok
}

func checkSerialWord(t *testing.T, n int, want string) {
	t.Helper()
	if got := impl.SerialWord(n); got != want {
		t.Errorf("SerialWord(%d): got %q, want %q", n, got, want)
	}
}

// checkValidPart takes a valid partition, with every function that there is for one.
func checkValidPart(t *testing.T, g impl.Geo, p impl.Part) {
	t.Helper()
	if !impl.PartOk(g, p) {
		t.Errorf("PartOk(%#v, %#v): got false, want true", g, p)
	}
	for tenant := range g.Tenants {
		checkPartWrites(t, g, tenant, p, writtenPart(g, tenant, p))
		checkChanged(t, g, tenant, p, p, nil)
	}
	for _, tenant := range append([]int{-1, g.Tenants, g.Tenants + 1}, numbersTooFar...) {
		checkPartWrites(t, g, tenant, p, nil)
		checkChanged(t, g, tenant, p, impl.PartNew(g), nil)
	}
}

func checkInvalidPart(t *testing.T, g impl.Geo, p impl.Part) {
	t.Helper()
	if impl.PartOk(g, p) {
		t.Errorf("PartOk(%#v, %#v): got true, want false", g, p)
	}
	for tenant := -1; tenant <= 3; tenant++ {
		checkPartWrites(t, g, tenant, p, nil)
		checkChanged(t, g, tenant, p, p, nil)
		checkChanged(t, g, tenant, p, impl.PartNew(g), nil)
		checkChanged(t, g, tenant, impl.PartNew(g), p, nil)
		checkChanged(t, g, tenant, impl.Part{}, p, nil)
	}
}

// checkPartAsRequired takes any partition: it is valid just if it meets all requirements.
func checkPartAsRequired(t *testing.T, g impl.Geo, p impl.Part) bool {
	t.Helper()
	faults := faultsOf(g, p)
	if got := impl.PartOk(g, p); got != (len(faults) == 0) {
		t.Errorf("PartOk(%#v, %#v): got %v, but what is wrong is %q", g, p, got, faults)
	}
	return len(faults) == 0
}

// withLink returns the inode with one more entry, of a name that no other one has.
func withLink(n impl.Inode, i int) impl.Inode {
	n = inodeCopy(n)
	n.Entries = append(n.Entries, impl.Entry{Inode: i, Name: "n" + strconv.Itoa(len(n.Entries))})
	return n
}

// randomFile takes some of the pages and returns the others.
func randomFile(source *rand.Rand, pages []int) (impl.Inode, []int) {
	n := impl.Inode{Kind: impl.InFile, Gen: source.Intn(65536), Key: randomText(source, 8)}
	count := min(source.Intn(5), len(pages))
	if count > 0 {
		n.Size = 32*count - source.Intn(32)
	}
	for _, page := range pages[:count] {
		n.Recs = append(n.Recs, impl.Rec{Page: page + 1, Serial: 1 + source.Intn(16777215), Mark: randomText(source, 4)})
	}
	return n, pages[count:]
}

// randomPart is a valid one, of a tree with any number of inodes at any places.
func randomPart(source *rand.Rand, g impl.Geo) impl.Part {
	p := impl.Part{Serial: source.Intn(16777216), States: make([]int, g.Pages), Inodes: make([]impl.Inode, g.Inodes)}
	pages, folders := source.Perm(g.Pages)[:source.Intn(g.Quota+1)], []int{0}
	p.Inodes[0] = impl.Inode{Kind: impl.InDir, Gen: source.Intn(65536)}
	for _, k := range source.Perm(g.Inodes - 1)[:source.Intn(g.Inodes)] {
		folder, i := folders[source.Intn(len(folders))], k+1
		if source.Intn(2) == 0 {
			p.Inodes[i] = impl.Inode{Kind: impl.InDir, Gen: source.Intn(65536)}
			folders = append(folders, i)
		} else {
			p.Inodes[i], pages = randomFile(source, pages)
		}
		p.Inodes[folder] = withLink(p.Inodes[folder], i)
	}
	for i, n := range p.Inodes {
		if n.Kind == impl.InFree {
			p.Inodes[i].Gen = source.Intn(65536)
		}
		for _, r := range n.Recs {
			p.States[r.Page-1] = impl.PgUsed
		}
	}
	for page, state := range p.States {
		if state != impl.PgUsed {
			p.States[page] = source.Intn(2)
		}
	}
	return p
}

// validParts are the known ones, and as many random ones for each layout of one, two and three tenants.
func validParts(more int, geos []impl.Geo) []storedPart {
	parts := []storedPart{}
	for _, c := range knownParts {
		parts = append(parts, storedPart{c.g, partCopy(c.p)})
	}
	source := rand.New(rand.NewSource(31))
	for _, g := range geos {
		for range more {
			parts = append(parts, storedPart{g, randomPart(source, g)})
		}
	}
	return parts
}

// sampleGeos are a few layouts of each number of tenants.
func sampleGeos() []impl.Geo {
	return []impl.Geo{
		leastGeo, middleGeo, greatestGeo, {Tenants: 1, Pages: 12, Inodes: 6, Quota: 8}, {Tenants: 1, Pages: 9, Inodes: 3, Quota: 5}, {Tenants: 2, Pages: 5, Inodes: 6, Quota: 1},
		{Tenants: 2, Pages: 12, Inodes: 2, Quota: 2}, {Tenants: 3, Pages: 7, Inodes: 5, Quota: 3}, {Tenants: 3, Pages: 5, Inodes: 2, Quota: 1}, {Tenants: 3, Pages: 10, Inodes: 4, Quota: 6},
	}
}

// treeOf has as many directories as there are numbers, of which each is that of the directory in which the inode is, or -1.
func treeOf(folders ...int) impl.Part {
	p := impl.Part{Inodes: make([]impl.Inode, len(folders))}
	for i := range p.Inodes {
		p.Inodes[i] = impl.Inode{Kind: impl.InDir, Gen: 1}
	}
	for i, folder := range folders {
		if folder >= 0 {
			p.Inodes[folder] = withLink(p.Inodes[folder], i)
		}
	}
	return p
}

// dirsOf has a directory for each list of entries.
func dirsOf(lists ...[]impl.Entry) impl.Part {
	p := impl.Part{}
	for _, list := range lists {
		p.Inodes = append(p.Inodes, dirOf(list...))
	}
	return p
}

// everyTree checks five directories, of which each is in any one or in none, with all cycles among them.
func everyTree(check func(p impl.Part)) {
	for choice := range 6 * 6 * 6 * 6 * 6 {
		folders := []int{}
		for rest := choice; len(folders) < 5; rest /= 6 {
			folders = append(folders, rest%6-1)
		}
		check(treeOf(folders...))
	}
}

// links are entries of the inodes with distinct names.
func links(inodes ...int) []impl.Entry {
	n := impl.Inode{}
	for _, i := range inodes {
		n = withLink(n, i)
	}
	return n.Entries
}

// uses are Recs of the given Pages, which are the page numbers plus 1.
func uses(numbers ...int) []impl.Rec {
	recs := []impl.Rec{}
	for _, number := range numbers {
		recs = append(recs, impl.Rec{Page: number, Serial: 7, Mark: "mark"})
	}
	return recs
}

func TestPartNewOfTheLeastAndTheGreatestLayout(t *testing.T) {
	free, root := impl.Inode{}, impl.Inode{Kind: 2, Gen: 1}
	checkPartNew(t, leastGeo, impl.Part{States: []int{0, 0, 0, 0, 0}, Inodes: []impl.Inode{root, free}})
	checkPartNew(t, middleGeo, impl.Part{States: []int{0, 0, 0, 0, 0, 0, 0, 0}, Inodes: []impl.Inode{root, free, free, free}})
	checkPartNew(t, greatestGeo, impl.Part{States: []int{0, 0, 0, 0, 0, 0, 0, 0, 0, 0, 0, 0}, Inodes: []impl.Inode{root, free, free, free, free, free}})
}

func TestPartNewForEveryLayout(t *testing.T) {
	for _, g := range validGeos() {
		want := impl.Part{States: make([]int, g.Pages), Inodes: append([]impl.Inode{{Kind: 2, Gen: 1}}, make([]impl.Inode, g.Inodes-1)...)}
		checkPartNew(t, g, want)
		checkValidPart(t, g, impl.PartNew(g))
	}
}

func TestPartNewOfInvalidLayouts(t *testing.T) {
	for _, g := range invalidGeos() {
		checkPartNew(t, g, impl.Part{})
		checkInvalidPart(t, g, impl.PartNew(g))
	}
}

func TestLinksToInodes(t *testing.T) {
	none, one := impl.PartNew(middleGeo), treeOf(-1, -1, 0, -1)
	several := impl.Part{Inodes: []impl.Inode{dirOf(links(2, 1, 2)...), dirOf(), dirOf(links(2, 3, 0)...), dirOf(links(3)...)}}
	for _, c := range []struct {
		p    impl.Part
		want []int
	}{
		{impl.Part{}, []int{0, 0, 0, 0, 0}}, {none, []int{0, 0, 0, 0, 0}}, {one, []int{0, 0, 1, 0, 0}}, {several, []int{1, 1, 3, 2, 0}},
		{knownParts[1].p, []int{0, 1, 0, 0, 0}}, {knownParts[2].p, []int{0, 1, 0, 1, 0, 0, 0}}, {knownParts[3].p, []int{0, 1, 0, 1, 1, 1, 0, 0}},
	} {
		for i, want := range c.want {
			checkLinksTo(t, c.p, i, want)
		}
		for _, i := range append([]int{-1, 5 + len(c.want), 12, 255, 256, 257, 258}, numbersTooFar...) {
			checkLinksTo(t, c.p, i, 0)
		}
	}
}

func TestUsersOfPages(t *testing.T) {
	none, one := impl.PartNew(middleGeo), impl.Part{Inodes: []impl.Inode{dirOf(), fileOf(uses(3)...)}}
	several := impl.Part{Inodes: []impl.Inode{fileOf(uses(2, 1, 2)...), fileOf(), dirOf(), fileOf(uses(2, 4)...), fileOf(uses(4)...)}}
	for _, c := range []struct {
		p    impl.Part
		want []int
	}{
		{impl.Part{}, []int{0, 0, 0, 0, 0}}, {none, []int{0, 0, 0, 0, 0, 0, 0, 0, 0}}, {one, []int{0, 0, 1, 0, 0}}, {several, []int{1, 3, 0, 2, 0, 0}},
		{knownParts[1].p, []int{0, 0, 0, 0, 0, 0, 0, 0, 0}}, {knownParts[2].p, []int{1, 0, 0, 1, 0, 0, 0, 0, 0}}, {knownParts[3].p, []int{1, 1, 1, 1, 1, 1, 1, 1, 0, 0, 0, 0, 0}},
	} {
		for page, want := range c.want {
			checkUsersOf(t, c.p, page, want)
		}
		for _, page := range append([]int{-1, 14, 15, 254, 255, 256, 257}, numbersTooFar...) {
			checkUsersOf(t, c.p, page, 0)
		}
	}
}

// Only directories have links and only files use pages, whatever the lists of other inodes hold.
func TestLinksAndUsersOfInodesOfOtherKinds(t *testing.T) {
	for _, kind := range append([]int{-1, 0, 1, 2, 3, 4, 255, 256, 257, 258}, numbersTooFar...) {
		n := impl.Inode{Kind: kind, Recs: uses(1, 3, 3), Entries: links(1, 3, 3)}
		for _, p := range []impl.Part{{Inodes: []impl.Inode{n}}, {Inodes: []impl.Inode{dirOf(links(2, 3)...), n, fileOf(uses(2, 3)...)}}} {
			others := (len(p.Inodes) - 1) / 2
			for i, own := range []int{0, 1, 0, 2, 0} {
				number := []int{0, 0, 1, 1, 0}[i] * others
				if kind == impl.InDir {
					checkLinksTo(t, p, i, number+own)
				} else {
					checkLinksTo(t, p, i, number)
				}
				if kind == impl.InFile {
					checkUsersOf(t, p, i-1, number+own)
				} else {
					checkUsersOf(t, p, i-1, number)
				}
			}
		}
	}
}

// Numbers that no valid inode has are counted like the others; above the greatest page there is no number.
func TestLinksAndUsersOfNumbersOutOfRange(t *testing.T) {
	numbers := append([]int{-1, 0, 6, 12, 13, 255, 256}, numbersTooFar...)
	for _, n := range numbers {
		p := impl.Part{Inodes: []impl.Inode{dirOf(links(1, n, n, 2)...), fileOf(uses(3, n, 4)...), dirOf(links(n)...), fileOf(uses(n)...)}}
		for _, other := range numbers {
			if other == n {
				checkLinksTo(t, p, other, 3)
			} else {
				checkLinksTo(t, p, other, 0)
			}
			if other == n && n != math.MinInt {
				checkUsersOf(t, p, other-1, 2)
			} else if other != math.MinInt {
				checkUsersOf(t, p, other-1, 0)
			}
		}
		checkUsersOf(t, p, math.MaxInt, 0)
	}
}

func TestDepthsInTrees(t *testing.T) {
	checkDepths(t, impl.PartNew(leastGeo), 0, -1)
	checkDepths(t, impl.PartNew(greatestGeo), 0, -1, -1, -1, -1, -1)
	checkDepths(t, treeOf(-1, 0, 1, 2, 3, 4), 0, 1, 2, 3, 4, 5)
	checkDepths(t, treeOf(-1, 2, 3, 4, 5, 0), 0, 5, 4, 3, 2, 1)
	checkDepths(t, treeOf(-1, 0, 0, 0, 0, 0), 0, 1, 1, 1, 1, 1)
	checkDepths(t, treeOf(-1, 4, 0, 1, 2, -1), 0, 3, 1, 4, 2, -1)
	checkDepths(t, treeOf(-1, -1, 1, 2, 0, 4), 0, -1, -1, -1, 1, 2)
	checkDepths(t, knownParts[2].p, 0, 1, -1, 2)
	checkDepths(t, knownParts[3].p, 0, 1, -1, 2, 2, 1)
	checkDepths(t, impl.Part{Inodes: []impl.Inode{fileOf()}}, 0)
}

func TestDepthsInCyclesOfDirectories(t *testing.T) {
	checkDepths(t, treeOf(-1, 1), 0, -1)
	checkDepths(t, treeOf(-1, 0, 2, 2), 0, 1, -1, -1)
	checkDepths(t, treeOf(-1, 2, 1), 0, -1, -1)
	checkDepths(t, treeOf(-1, 0, 3, 2, 3, 4), 0, 1, -1, -1, -1, -1)
	checkDepths(t, treeOf(-1, 3, 1, 2), 0, -1, -1, -1)
	checkDepths(t, treeOf(-1, 5, 1, 2, 3, 4), 0, -1, -1, -1, -1, -1)
	checkDepths(t, treeOf(-1, 2, 4, 0, 5, 1), 0, -1, -1, 1, -1, -1)
	checkDepths(t, treeOf(0, 0, 1), 0, 1, 2)
	checkDepths(t, treeOf(2, 0, 1), 0, 1, 2)
	checkDepths(t, treeOf(5, 0, 1, 2, 3, 4), 0, 1, 2, 3, 4, 5)
}

// Of the directories that link to an inode, only the first one counts.
func TestDepthsWithTwoLinks(t *testing.T) {
	checkDepths(t, dirsOf(links(1, 3), links(2), links(3), links()), 0, 1, 2, 1)
	checkDepths(t, dirsOf(links(1), links(2, 3), links(3), links()), 0, 1, 2, 2)
	checkDepths(t, dirsOf(links(2), links(3), links(1, 3), links()), 0, 2, 1, 3)
	checkDepths(t, dirsOf(links(2), links(3), links(3), links()), 0, -1, 1, -1)
	checkDepths(t, dirsOf(links(2), links(1, 3), links(1, 3), links()), 0, -1, 1, -1)
	checkDepths(t, dirsOf(links(2, 2), links(), links(3, 1, 3), links(3)), 0, 2, 1, 2)
	checkDepths(t, dirsOf(links(3), links(1), links(1), links(2)), 0, -1, 2, 1)
}

// An entry leads up only from a directory.
func TestDepthsBelowInodesOfOtherKinds(t *testing.T) {
	for _, kind := range append([]int{-1, 0, 1, 3, 255, 256, 258}, numbersTooFar...) {
		p := treeOf(-1, 0, 1, 2)
		p.Inodes[1].Kind = kind
		checkDepths(t, p, 0, 1, -1, -1)
		p.Inodes[3].Entries = links(2)
		checkDepths(t, p, 0, 1, -1, -1)
		p.Inodes[0].Entries = links(1, 3)
		checkDepths(t, p, 0, 1, 2, 1)
		p.Inodes[0].Kind = kind
		checkDepths(t, p, 0, -1, -1, -1)
	}
}

// An entry of an inode that does not exist leads up as any other does, through at most all inodes.
func TestDepthOfWhatIsNoInode(t *testing.T) {
	for _, i := range append([]int{-1, 6, 7, 12}, numbersTooFar...) {
		p := treeOf(-1, 0, 1, 2, 3, 4)
		for folder := range p.Inodes {
			linked := partCopy(p)
			linked.Inodes[folder] = withLink(linked.Inodes[folder], i)
			checkDepthOf(t, linked, i, folder+1)
		}
	}
}

// No step is needed from inode 0 to itself, also where it does not exist.
func TestDepthsWithoutInodes(t *testing.T) {
	checkDepthOf(t, impl.Part{}, 0, 0)
	for _, i := range append([]int{-1, 1, 2}, numbersTooFar...) {
		checkDepthOf(t, impl.Part{}, i, -1)
	}
}

// depthsIn goes down from inode 0, level by level, to the inodes whose first directory is on the level.
func depthsIn(p impl.Part, numbers []int) map[int]int {
	first, depths := map[int]int{}, map[int]int{0: 0}
	for folder, n := range slices.Backward(p.Inodes) {
		for _, e := range n.Entries {
			if n.Kind == impl.InDir {
				first[e.Inode] = folder
			}
		}
	}
	for level := range p.Inodes {
		for _, i := range numbers {
			folder, linked := first[i]
			depth, ok := depths[folder]
			if linked && ok && depth == level && i != 0 {
				depths[i] = level + 1
			}
		}
	}
	return depths
}

// checkEachDepth takes any partition and compares the depths of the numbers, among which must be all of its inodes.
func checkEachDepth(t *testing.T, p impl.Part, numbers []int) {
	t.Helper()
	depths := depthsIn(p, numbers)
	for _, i := range numbers {
		if depth, ok := depths[i]; ok {
			checkDepthOf(t, p, i, depth)
		} else {
			checkDepthOf(t, p, i, -1)
		}
	}
}

// Each of five directories is in any one or in none.
func TestDepthsForEveryChoiceOfOneDirectory(t *testing.T) {
	numbers := []int{-1, 0, 1, 2, 3, 4, 5}
	everyTree(func(p impl.Part) { checkEachDepth(t, p, numbers) })
}

// Each of three inodes is a directory or a file, with any links to inodes that exist and to one that does not.
func TestDepthsForEveryChoiceOfLinks(t *testing.T) {
	numbers := []int{-1, 0, 1, 2, 3, 4}
	for choice := range 32 * 32 * 32 {
		p := impl.Part{}
		for rest := choice; len(p.Inodes) < 3; rest /= 32 {
			n := impl.Inode{Kind: 1 + rest%2}
			for i := range 4 {
				if rest>>(i+1)&1 == 1 {
					n = withLink(n, i)
				}
			}
			p.Inodes = append(p.Inodes, n)
		}
		checkEachDepth(t, p, numbers)
	}
}

func TestValidPartsOfEverySize(t *testing.T) {
	for _, c := range validParts(4, validGeos()) {
		checkPartAsRequired(t, c.g, c.p)
		checkValidPart(t, c.g, c.p)
	}
}

// A partition of one layout is not one of another, but for the number of tenants and for a quota that is great enough.
func TestPartsOfOtherLayouts(t *testing.T) {
	for _, c := range validParts(2, sampleGeos()) {
		used := len(impl.PagesWith(c.p.States, impl.PgUsed))
		for _, g := range validGeos() {
			want := g.Pages == c.g.Pages && g.Inodes == c.g.Inodes && used <= g.Quota
			if got := impl.PartOk(g, c.p); got != want {
				t.Errorf("PartOk(%#v, %#v): got %v, want %v", g, c.p, got, want)
			}
		}
		for _, g := range invalidGeos() {
			checkInvalidPart(t, g, c.p)
		}
	}
}

// The requirements of the specification, each broken alone in the same partition.
func TestPartOkWithOneRequirementBroken(t *testing.T) {
	for what, change := range map[string]func(g *impl.Geo, p *impl.Part){
		"no tenant":                      func(g *impl.Geo, p *impl.Part) { g.Tenants = 0 },
		"too many tenants":               func(g *impl.Geo, p *impl.Part) { g.Tenants = 4 },
		"a quota of all pages":           func(g *impl.Geo, p *impl.Part) { g.Quota = 5 },
		"Serial -1":                      func(g *impl.Geo, p *impl.Part) { p.Serial = -1 },
		"Serial above MaxSerial":         func(g *impl.Geo, p *impl.Part) { p.Serial = 16777216 },
		"the least Serial":               func(g *impl.Geo, p *impl.Part) { p.Serial = math.MinInt },
		"the greatest Serial":            func(g *impl.Geo, p *impl.Part) { p.Serial = math.MaxInt },
		"a state too few":                func(g *impl.Geo, p *impl.Part) { p.States = p.States[:7] },
		"a state too many":               func(g *impl.Geo, p *impl.Part) { p.States = append(p.States, 0) },
		"a state below":                  func(g *impl.Geo, p *impl.Part) { p.States[1] = -1 },
		"a state above":                  func(g *impl.Geo, p *impl.Part) { p.States[6] = 3 },
		"an inode too many":              func(g *impl.Geo, p *impl.Part) { p.Inodes = append(p.Inodes, impl.Inode{}) },
		"a layout of more inodes":        func(g *impl.Geo, p *impl.Part) { g.Inodes = 5 },
		"a directory with a size":        func(g *impl.Geo, p *impl.Part) { p.Inodes[0].Size = 1 },
		"a file with a Gen above MaxGen": func(g *impl.Geo, p *impl.Part) { p.Inodes[3].Gen = 65536 },
		"a free inode with a key":        func(g *impl.Geo, p *impl.Part) { p.Inodes[2].Key = "12345678" },
		"another kind":                   func(g *impl.Geo, p *impl.Part) { p.Inodes[2].Kind, p.Inodes[0] = 3, withLink(p.Inodes[0], 2) },
		"an entry of no inode":           func(g *impl.Geo, p *impl.Part) { p.Inodes[0] = withLink(p.Inodes[0], 4) },
		"a file without a link":          func(g *impl.Geo, p *impl.Part) { p.Inodes[1].Entries = nil },
		"a directory without a link":     func(g *impl.Geo, p *impl.Part) { p.Inodes[2] = dirOf() },
		"two links in one directory":     func(g *impl.Geo, p *impl.Part) { p.Inodes[1] = withLink(p.Inodes[1], 3) },
		"two links in two directories":   func(g *impl.Geo, p *impl.Part) { p.Inodes[0] = withLink(p.Inodes[0], 3) },
		"a directory in itself":          func(g *impl.Geo, p *impl.Part) { p.Inodes[2] = dirOf(links(2)...) },
		"a directory below itself": func(g *impl.Geo, p *impl.Part) {
			p.Inodes[0].Entries, p.Inodes[2] = nil, dirOf(links(1)...)
			p.Inodes[1] = withLink(p.Inodes[1], 2)
		},
		"a free inode with a link":   func(g *impl.Geo, p *impl.Part) { p.Inodes[1] = withLink(p.Inodes[1], 2) },
		"a used page without a user": func(g *impl.Geo, p *impl.Part) { p.States[1] = 2 },
		"a clean page with a user":   func(g *impl.Geo, p *impl.Part) { p.States[0] = 0 },
		"a dirty page with a user":   func(g *impl.Geo, p *impl.Part) { p.States[3] = 1 },
		"a page with two users": func(g *impl.Geo, p *impl.Part) {
			p.Inodes[2], p.Inodes[0] = fileOf(uses(1)...), withLink(p.Inodes[0], 2)
		},
		"a page that does not exist":     func(g *impl.Geo, p *impl.Part) { p.Inodes[3].Recs[1].Page, p.States[0] = 9, 0 },
		"more used pages than the quota": func(g *impl.Geo, p *impl.Part) { g.Quota = 1 },
	} {
		g, p := knownParts[2].g, partCopy(knownParts[2].p)
		checkValidPart(t, g, p)
		change(&g, &p)
		if faults := faultsOf(g, p); len(faults) != 1 {
			t.Errorf("%s: what is wrong is %q, want one requirement", what, faults)
		}
		t.Run(what, func(t *testing.T) { checkInvalidPart(t, g, p) })
	}
}

func TestPartOkAtTheEndsOfEachRange(t *testing.T) {
	for _, c := range validParts(1, sampleGeos()) {
		for _, n := range append([]int{-1, 0, 1, 255, 256, 65535, 65536, 16777214, 16777215, 16777216, 16777217}, numbersTooFar...) {
			c.p.Serial = n
			if n >= 0 && n <= 16777215 {
				checkValidPart(t, c.g, c.p)
			} else {
				checkInvalidPart(t, c.g, c.p)
			}
		}
	}
}

// As many used pages as the quota and one more, for each quota.
func TestPartOkAtTheQuota(t *testing.T) {
	for pages := 5; pages <= 12; pages++ {
		for used := range 9 {
			p := impl.PartNew(impl.Geo{Tenants: 1, Pages: pages, Inodes: 4, Quota: 1})
			numbers := []int{pages, 1, 2, 3, 4, 5, 6, 7}
			p.Inodes[1], p.Inodes[3], p.Inodes[0] = fileOf(uses(numbers[:min(used, 4)]...)...), fileOf(uses(numbers[min(used, 4):used]...)...), dirOf(links(1, 3)...)
			for _, number := range numbers[:min(used, pages)] {
				p.States[number-1] = impl.PgUsed
			}
			for quota := -1; quota <= 9; quota++ {
				g := impl.Geo{Tenants: 1, Pages: pages, Inodes: 4, Quota: quota}
				if quota >= 1 && quota+4 <= pages && used <= quota {
					checkValidPart(t, g, p)
				} else {
					checkInvalidPart(t, g, p)
				}
			}
		}
	}
}

// Each of four inodes is free, a file or a directory with any links to the other three and itself.
func TestPartOkForEveryChoiceOfLinks(t *testing.T) {
	choices := []impl.Inode{{Gen: 3}, fileOf()}
	for set := range 8 {
		n := dirOf()
		for i := 1; i <= 3; i++ {
			if set>>(i-1)&1 == 1 {
				n = withLink(n, i)
			}
		}
		choices = append(choices, n)
	}
	valid := 0
	for choice := range 10 * 10 * 10 * 10 {
		p := impl.PartNew(middleGeo)
		for i, rest := 0, choice; i < 4; i, rest = i+1, rest/10 {
			p.Inodes[i] = inodeCopy(choices[rest%10])
		}
		if checkPartAsRequired(t, middleGeo, p) {
			valid++
		}
	}
	// A tree has at the root one of the 1, 3, 3 and 1 choices of inodes below, as a leaf of which there may be a file too:
	// 1 tree of none, 3 * 2 of one, 3 * (4 + 2 * 2) of two and 8 + 6 * 2 + 3 * 4 + 6 * 4 of three inodes.
	if valid != 1+6+24+56 {
		t.Errorf("%d partitions are valid, want 87", valid)
	}
}

// Two files use any of two pages, of the last page and of one that does not exist, and each of the three has any state.
func TestPartOkForEveryChoiceOfPages(t *testing.T) {
	lists := [][]int{}
	for set := range 16 {
		list := []int{}
		for k, number := range []int{1, 6, 2, 7} {
			if set>>k&1 == 1 {
				list = append(list, number)
			}
		}
		lists = append(lists, list)
	}
	valid := [3]int{}
	for choice := range 16 * 16 * 27 {
		p := impl.Part{States: []int{choice % 3, choice / 3 % 3, 0, 1, 0, choice / 9 % 3}}
		p.Inodes = []impl.Inode{dirOf(links(1, 2)...), fileOf(uses(lists[choice/27%16]...)...), fileOf(uses(lists[choice/27/16]...)...)}
		for quota := 1; quota <= 2; quota++ {
			if checkPartAsRequired(t, impl.Geo{Tenants: 1, Pages: 6, Inodes: 3, Quota: quota}, p) {
				valid[quota]++
			}
		}
	}
	// Each of the three pages is used by one of the files, clean or dirty.
	if valid[1] != 8+3*8 || valid[2] != 8+3*8+3*8 {
		t.Errorf("%d and %d partitions are valid, want 32 and 56", valid[1], valid[2])
	}
}

// partFault breaks one requirement of a valid partition and leaves the others, if the partition is one where it can.
type partFault struct {
	what  string
	apply func(source *rand.Rand, g *impl.Geo, p *impl.Part) bool
}

// anInode returns one of the inodes from 1 on of a kind.
func anInode(source *rand.Rand, p *impl.Part, kind int) (int, bool) {
	for _, k := range source.Perm(len(p.Inodes) - 1) {
		if p.Inodes[k+1].Kind == kind {
			return k + 1, true
		}
	}
	return 0, false
}

// aFolder returns a directory, which may be inode 0.
func aFolder(source *rand.Rand, p *impl.Part) int {
	i, ok := anInode(source, p, impl.InDir)
	if !ok || source.Intn(3) == 0 {
		return 0
	}
	return i
}

// aUse returns a file and the index of one of its Recs, other than in the file that is left out.
func aUse(source *rand.Rand, p *impl.Part, leftOut int) (int, int, bool) {
	for _, i := range source.Perm(len(p.Inodes)) {
		if recs := p.Inodes[i].Recs; i != leftOut && len(recs) > 0 {
			return i, source.Intn(len(recs)), true
		}
	}
	return 0, 0, false
}

// anUnused returns a page that is not used.
func anUnused(source *rand.Rand, p *impl.Part) int {
	for {
		if page := source.Intn(len(p.States)); p.States[page] != impl.PgUsed {
			return page
		}
	}
}

// unlink removes the link to an inode and returns the directory that had it.
func unlink(p *impl.Part, i int) int {
	for folder, n := range p.Inodes {
		for k, e := range n.Entries {
			if e.Inode == i {
				p.Inodes[folder].Entries = slices.Delete(n.Entries, k, k+1)
				return folder
			}
		}
	}
	return -1
}

// link adds an entry at any place in the order of names.
func link(source *rand.Rand, p *impl.Part, folder int, i int) bool {
	n := &p.Inodes[folder]
	name := randomName(source)
	at, there := slices.BinarySearchFunc(n.Entries, name, func(e impl.Entry, name string) int { return strings.Compare(e.Name, name) })
	if there || len(n.Entries) == 6 {
		return false
	}
	n.Entries = slices.Insert(n.Entries, at, impl.Entry{Inode: i, Name: name})
	return true
}

// fieldFaults break what concerns no other field.
func fieldFaults() []partFault {
	return []partFault{
		{badLayout, func(source *rand.Rand, g *impl.Geo, p *impl.Part) bool {
			g.Tenants = []int{-1, 0, 4, 5, math.MaxInt, math.MinInt}[source.Intn(6)]
			return true
		}},
		{badLayout, func(source *rand.Rand, g *impl.Geo, p *impl.Part) bool {
			g.Quota = g.Pages - 3 + source.Intn(3)
			return true
		}},
		{badSerial, func(source *rand.Rand, g *impl.Geo, p *impl.Part) bool {
			p.Serial = append([]int{-1, 16777216, 16777217}, numbersTooFar...)[source.Intn(3+len(numbersTooFar))]
			return true
		}},
		{badStates, func(source *rand.Rand, g *impl.Geo, p *impl.Part) bool {
			last := len(p.States) - 1
			used := p.States[last] == impl.PgUsed
			p.States = p.States[:last]
			return !used
		}},
		{badStates, func(source *rand.Rand, g *impl.Geo, p *impl.Part) bool {
			p.States = append(p.States, make([]int, 1+source.Intn(3))...)
			return true
		}},
		{badStates, func(source *rand.Rand, g *impl.Geo, p *impl.Part) bool {
			p.States[anUnused(source, p)] = notStates[source.Intn(len(notStates))]
			return true
		}},
		{badCount, func(source *rand.Rand, g *impl.Geo, p *impl.Part) bool {
			p.Inodes = append(p.Inodes, make([]impl.Inode, 1+source.Intn(3))...)
			return true
		}},
		{badCount, func(source *rand.Rand, g *impl.Geo, p *impl.Part) bool {
			last := len(p.Inodes) - 1
			free := p.Inodes[last].Kind == impl.InFree
			p.Inodes = p.Inodes[:last]
			return free
		}},
		{badInode, func(source *rand.Rand, g *impl.Geo, p *impl.Part) bool {
			p.Inodes[source.Intn(len(p.Inodes))].Gen = []int{-1, 65536, 65537, math.MinInt, math.MaxInt}[source.Intn(5)]
			return true
		}},
		{badInode, func(source *rand.Rand, g *impl.Geo, p *impl.Part) bool {
			p.Inodes[source.Intn(len(p.Inodes))].Key += "k"
			return true
		}},
		{badInode, func(source *rand.Rand, g *impl.Geo, p *impl.Part) bool {
			p.Inodes[source.Intn(len(p.Inodes))].Size -= 1 << 32
			return true
		}},
		{badInode, func(source *rand.Rand, g *impl.Geo, p *impl.Part) bool {
			i, ok := anInode(source, p, impl.InFree)
			p.Inodes[i].Kind = 3 + source.Intn(4)*84
			return ok && link(source, p, 0, i)
		}},
	}
}

// linkBreaks break the tree of the directories.
func linkBreaks() []partFault {
	return []partFault{
		{rootKind, func(source *rand.Rand, g *impl.Geo, p *impl.Part) bool {
			empty := len(p.Inodes[0].Entries) == 0
			p.Inodes[0] = []impl.Inode{{}, {Gen: 1}, fileOf(), {Kind: impl.InFile, Key: zeroWord}}[source.Intn(4)]
			return empty
		}},
		{wrongEntry, func(source *rand.Rand, g *impl.Geo, p *impl.Part) bool {
			return g.Inodes < 6 && link(source, p, aFolder(source, p), g.Inodes+source.Intn(6-g.Inodes))
		}},
		{noLink, func(source *rand.Rand, g *impl.Geo, p *impl.Part) bool {
			i, ok := anInode(source, p, impl.InFree)
			p.Inodes[i] = []impl.Inode{dirOf(), fileOf()}[source.Intn(2)]
			return ok
		}},
		{noLink, func(source *rand.Rand, g *impl.Geo, p *impl.Part) bool {
			i, ok := anInode(source, p, 1+source.Intn(2))
			return ok && unlink(p, i) >= 0 && len(p.Inodes[i].Entries) == 0
		}},
		{twoLinks, func(source *rand.Rand, g *impl.Geo, p *impl.Part) bool {
			i, ok := anInode(source, p, 1+source.Intn(2))
			return ok && link(source, p, aFolder(source, p), i)
		}},
		{noWayUp, func(source *rand.Rand, g *impl.Geo, p *impl.Part) bool {
			i, ok := anInode(source, p, impl.InFree)
			p.Inodes[i] = dirOf()
			return ok && link(source, p, i, i)
		}},
		{noWayUp, func(source *rand.Rand, g *impl.Geo, p *impl.Part) bool {
			first, one := anInode(source, p, impl.InFree)
			p.Inodes[first] = dirOf()
			second, other := anInode(source, p, impl.InFree)
			p.Inodes[second] = dirOf()
			return one && other && link(source, p, first, second) && link(source, p, second, first)
		}},
		{noWayUp, func(source *rand.Rand, g *impl.Geo, p *impl.Part) bool {
			i, ok := anInode(source, p, impl.InDir)
			below, other := anInode(source, p, impl.InDir)
			unlink(p, i)
			_, up := depthsIn(*p, []int{0, 1, 2, 3, 4, 5})[below]
			return ok && other && !up && link(source, p, below, i)
		}},
		{freeLink, func(source *rand.Rand, g *impl.Geo, p *impl.Part) bool {
			i, ok := anInode(source, p, impl.InFree)
			return ok && link(source, p, aFolder(source, p), i)
		}},
	}
}

// pageBreaks break what the states of pages and the Recs of files have to say of one another.
func pageBreaks() []partFault {
	return []partFault{
		{noUser, func(source *rand.Rand, g *impl.Geo, p *impl.Part) bool {
			p.States[anUnused(source, p)] = impl.PgUsed
			return len(impl.PagesWith(p.States, impl.PgUsed)) <= g.Quota
		}},
		{noUser, func(source *rand.Rand, g *impl.Geo, p *impl.Part) bool {
			i, _, ok := aUse(source, p, -1)
			if ok {
				n := &p.Inodes[i]
				n.Recs = n.Recs[1:]
				n.Size = 32 * len(n.Recs)
			}
			return ok
		}},
		{twoUsers, func(source *rand.Rand, g *impl.Geo, p *impl.Part) bool {
			i, k, ok := aUse(source, p, -1)
			j, l, other := aUse(source, p, i)
			if ok && other {
				p.States[p.Inodes[i].Recs[k].Page-1] = source.Intn(2)
				p.Inodes[i].Recs[k].Page = p.Inodes[j].Recs[l].Page
			}
			return ok && other
		}},
		{twoUsers, func(source *rand.Rand, g *impl.Geo, p *impl.Part) bool {
			i, k, ok := aUse(source, p, -1)
			j, free := anInode(source, p, impl.InFree)
			if ok && free {
				p.Inodes[j] = fileOf(uses(p.Inodes[i].Recs[k].Page)...)
			}
			return ok && free && link(source, p, aFolder(source, p), j)
		}},
		{unusedUser, func(source *rand.Rand, g *impl.Geo, p *impl.Part) bool {
			i, k, ok := aUse(source, p, -1)
			if ok {
				p.States[p.Inodes[i].Recs[k].Page-1] = source.Intn(2)
			}
			return ok
		}},
		{unusedUser, func(source *rand.Rand, g *impl.Geo, p *impl.Part) bool {
			i, k, ok := aUse(source, p, -1)
			if ok {
				page := p.Inodes[i].Recs[k].Page - 1
				p.Inodes[i].Recs[k].Page = anUnused(source, p) + 1
				p.States[page] = source.Intn(2)
			}
			return ok
		}},
		{wrongPage, func(source *rand.Rand, g *impl.Geo, p *impl.Part) bool {
			i, k, ok := aUse(source, p, -1)
			if ok && g.Pages < 12 {
				p.States[p.Inodes[i].Recs[k].Page-1] = source.Intn(2)
				p.Inodes[i].Recs[k].Page = g.Pages + 1 + source.Intn(12-g.Pages)
			}
			return ok && g.Pages < 12
		}},
		{aboveTheQuota, func(source *rand.Rand, g *impl.Geo, p *impl.Part) bool {
			g.Quota = len(impl.PagesWith(p.States, impl.PgUsed)) - 1
			return g.Quota > 0
		}},
	}
}

// inWords reports whether a partition has words, valid or not.
func inWords(g impl.Geo, p impl.Part) bool {
	return !slices.ContainsFunc(faultsOf(g, p), func(what string) bool {
		return slices.Contains([]string{badLayout, badSerial, badStates, badCount, badInode}, what)
	})
}

// Each requirement is broken alone in partitions of every layout. Those that still have words are read back as they are.
func TestPartsWithOneRequirementBroken(t *testing.T) {
	source := rand.New(rand.NewSource(32))
	for number, fault := range slices.Concat(fieldFaults(), linkBreaks(), pageBreaks()) {
		broken := 0
		for _, c := range validParts(2, validGeos()) {
			before := partCopy(c.p)
			if !fault.apply(source, &c.g, &c.p) {
				continue
			}
			if faults := faultsOf(c.g, c.p); !slices.Equal(faults, []string{fault.what}) {
				t.Fatalf("fault %d makes of %#v the partition %#v, in which is wrong %q, want %s", number, before, c.p, faults, fault.what)
			}
			broken++
			checkInvalidPart(t, c.g, c.p)
			if inWords(c.g, c.p) {
				tenant := source.Intn(c.g.Tenants)
				checkReadPart(t, withPart(noisyMemory(c.g), c.g, tenant, c.p), c.g, tenant, c.p, true)
			}
		}
		if broken < 25 {
			t.Errorf("fault %d, of %s, was tried in only %d partitions", number, fault.what, broken)
		}
	}
}

// An entry of inode 0 makes its directory not valid, so that this requirement cannot be broken alone.
func TestPartsWithALinkToInode0(t *testing.T) {
	source := rand.New(rand.NewSource(33))
	for _, c := range validParts(2, sampleGeos()) {
		if link(source, &c.p, aFolder(source, &c.p), 0) {
			checkInvalidPart(t, c.g, c.p)
		}
	}
}

// changedAnywhere changes a partition or its layout a little, in a way that it may stand.
func changedAnywhere(source *rand.Rand, g *impl.Geo, p *impl.Part) {
	i := source.Intn(len(p.Inodes))
	n := &p.Inodes[i]
	switch source.Intn(12) {
	case 0:
		g.Quota += source.Intn(3) - 1
	case 1, 2:
		p.States[source.Intn(len(p.States))] = source.Intn(3)
	case 3:
		n.Kind = source.Intn(3)
	case 4:
		p.Inodes[i] = randomInode(source)
	case 5:
		*n = []impl.Inode{{}, dirOf(), fileOf()}[source.Intn(3)]
	case 6, 7:
		link(source, p, i, source.Intn(len(p.Inodes)+1))
	case 8:
		unlink(p, i)
	case 9:
		if len(n.Entries) > 0 {
			n.Entries[source.Intn(len(n.Entries))].Inode = source.Intn(len(p.Inodes) + 1)
		}
	case 10:
		if len(n.Recs) > 0 {
			n.Recs[source.Intn(len(n.Recs))].Page = source.Intn(g.Pages + 2)
		}
	case 11:
		j := source.Intn(len(p.Inodes))
		p.Inodes[i], p.Inodes[j] = p.Inodes[j], p.Inodes[i]
	}
}

func TestPartOkOfChangedParts(t *testing.T) {
	source := rand.New(rand.NewSource(34))
	valid, count := 0, 0
	for _, c := range validParts(12, validGeos()) {
		for range 1 + source.Intn(3) {
			changedAnywhere(source, &c.g, &c.p)
		}
		count++
		if checkPartAsRequired(t, c.g, c.p) {
			valid++
			checkValidPart(t, c.g, c.p)
		}
	}
	if valid < count/20 || count-valid < count/20 {
		t.Errorf("%d of %d changed partitions are valid", valid, count)
	}
}

// Every word of the known partitions at its index, byte by byte.
func TestPartWritesOfKnownParts(t *testing.T) {
	for _, c := range knownParts {
		writes := impl.PartWrites(c.g, c.tenant, c.p)
		if len(writes) != c.count {
			t.Fatalf("PartWrites(%#v, %d): got %d words, want %d", c.g, c.tenant, len(writes), c.count)
		}
		for k, w := range writes {
			want, ok := c.words[c.first+k]
			if !ok {
				want = zeroWord
			}
			if w.At != c.first+k || len(w.Word) != 8 {
				t.Fatalf("PartWrites(%#v, %d): write %d is of %d bytes at %d, want one of 8 bytes at %d", c.g, c.tenant, k, len(w.Word), w.At, c.first+k)
			}
			for at := range 8 {
				if w.Word[at] != want[at] {
					t.Errorf("PartWrites(%#v, %d): byte %d of word %d is %d, want %d", c.g, c.tenant, at, w.At, w.Word[at], want[at])
				}
			}
		}
		checkSerialWord(t, c.p.Serial, c.serial)
		if got := impl.SerialAt(c.g, c.tenant); got != c.serialAt {
			t.Errorf("SerialAt(%#v, %d): got %d, want %d", c.g, c.tenant, got, c.serialAt)
		}
	}
}

// The indexes are those of the places of states and inodes, for each tenant.
func TestPartWritesAreAtTheirPlaces(t *testing.T) {
	for _, c := range validParts(1, validGeos()) {
		for tenant := range c.g.Tenants {
			writes := impl.PartWrites(c.g, tenant, c.p)
			if len(writes) != 2+8*c.g.Inodes {
				t.Fatalf("PartWrites(%#v, %d): got %d words, want %d", c.g, tenant, len(writes), 2+8*c.g.Inodes)
			}
			for k, w := range writes {
				if k < 2 {
					checkPartAt(t, c.g, w.At, tenant, impl.PtStates)
				} else {
					checkPartAt(t, c.g, w.At, tenant, impl.PtInode)
				}
				if k >= 2 && w.At != impl.InodeAt(c.g, tenant, (k-2)/8)+(k-2)%8 {
					t.Errorf("PartWrites(%#v, %d): write %d is at %d", c.g, tenant, k, w.At)
				}
			}
		}
	}
}

func TestPartWritesOfNoTenant(t *testing.T) {
	for _, c := range validParts(1, sampleGeos()) {
		for _, tenant := range append([]int{c.g.Tenants, c.g.Tenants + 1, 3}, numbersOfNothing...) {
			checkPartWrites(t, c.g, tenant, c.p, nil)
			checkChanged(t, c.g, tenant, c.p, impl.PartNew(c.g), nil)
			checkChanged(t, c.g, tenant, c.p, c.p, nil)
		}
	}
}

// differentWrites are the words of b that are others than those of a at the same index.
func differentWrites(g impl.Geo, tenant int, a impl.Part, b impl.Part) []impl.Write {
	changed := []impl.Write{}
	for k, w := range writtenPart(g, tenant, b) {
		if w.Word != writtenPart(g, tenant, a)[k].Word {
			changed = append(changed, w)
		}
	}
	return changed
}

// checkChangedBothWays takes two valid partitions, for each tenant, and brings the words of one to those of the other.
func checkChangedBothWays(t *testing.T, g impl.Geo, a impl.Part, b impl.Part) {
	t.Helper()
	for tenant := range g.Tenants {
		checkChanged(t, g, tenant, a, b, differentWrites(g, tenant, a, b))
		checkChanged(t, g, tenant, b, a, differentWrites(g, tenant, b, a))
		m := withPart(noisyMemory(g), g, tenant, a)
		for _, w := range impl.Changed(g, tenant, a, b) {
			m = impl.StoreWord(m, w.At, w.Word)
		}
		want := partCopy(b)
		want.Serial = a.Serial
		checkReadPart(t, m, g, tenant, want, true)
	}
}

func TestChangedOfEqualParts(t *testing.T) {
	for _, c := range validParts(2, sampleGeos()) {
		checkChangedBothWays(t, c.g, c.p, partCopy(c.p))
		// The serial number is in no word of PartWrites.
		other := partCopy(c.p)
		for _, n := range []int{0, 1, 16777215} {
			other.Serial = n
			checkChangedBothWays(t, c.g, c.p, other)
			checkChanged(t, c.g, 0, c.p, other, nil)
		}
	}
}

// One word differs, that of the states of the first eight pages or that of the others.
func TestChangedOfOneState(t *testing.T) {
	for _, c := range validParts(2, sampleGeos()) {
		for page, state := range c.p.States {
			other := partCopy(c.p)
			if state == impl.PgUsed {
				continue
			}
			other.States[page] = 1 - state
			for tenant := range c.g.Tenants {
				changed := impl.Changed(c.g, tenant, c.p, other)
				if len(changed) != 1 || changed[0].At != partStart(c.g, tenant)+36+page/8 || changed[0].Word != writtenStates(other.States)[page/8] {
					t.Errorf("Changed(%#v, %d, %#v, %#v): got %#v", c.g, tenant, c.p, other, changed)
				}
			}
			checkChangedBothWays(t, c.g, c.p, other)
		}
	}
}

func TestChangedOfOneInode(t *testing.T) {
	source := rand.New(rand.NewSource(35))
	for _, c := range validParts(2, sampleGeos()) {
		for i := range c.p.Inodes {
			other := partCopy(c.p)
			n := &other.Inodes[i]
			n.Gen ^= 1 + source.Intn(65535)
			for tenant := range c.g.Tenants {
				checkChanged(t, c.g, tenant, c.p, other, []impl.Write{{At: partStart(c.g, tenant) + 38 + 8*i, Word: writtenInode(*n)[0]}})
			}
			checkChangedBothWays(t, c.g, c.p, other)
			for k := range n.Recs {
				n.Recs[k].Serial = 1 + source.Intn(16777215)
				checkChangedBothWays(t, c.g, c.p, other)
				n.Recs[k].Mark = randomText(source, 4)
				checkChangedBothWays(t, c.g, c.p, other)
			}
			if n.Kind == impl.InFile {
				n.Key = randomText(source, 8)
				checkChangedBothWays(t, c.g, c.p, other)
			}
			for k := range n.Entries {
				n.Entries[k].Name = n.Entries[k].Name[:1] + strconv.Itoa(k)
			}
			if impl.PartOk(c.g, other) {
				checkChangedBothWays(t, c.g, c.p, other)
			}
		}
	}
}

func TestChangedOfEverything(t *testing.T) {
	source := rand.New(rand.NewSource(36))
	for _, c := range validParts(3, validGeos()) {
		other := randomPart(source, c.g)
		for tenant := range c.g.Tenants {
			checkChanged(t, c.g, tenant, c.p, other, differentWrites(c.g, tenant, c.p, other))
		}
	}
	for _, c := range validParts(3, sampleGeos()) {
		checkChangedBothWays(t, c.g, c.p, randomPart(source, c.g))
		checkChangedBothWays(t, c.g, c.p, impl.PartNew(c.g))
	}
}

// The two words that differ in the given example are written out.
func TestChangedOfKnownParts(t *testing.T) {
	for tenant, start := range []int{0, 102} {
		checkChanged(t, middleGeo, tenant, impl.PartNew(middleGeo), knownParts[1].p, []impl.Write{{At: start + 40, Word: "\x01a\x00\x00\x00\x00\x00\x00"}, {At: start + 46, Word: "\x02\x00\x00\x00\x01\x00\x00\x00"}})
		checkChanged(t, middleGeo, tenant, knownParts[1].p, impl.PartNew(middleGeo), []impl.Write{{At: start + 40, Word: zeroWord}, {At: start + 46, Word: zeroWord}})
		checkChanged(t, middleGeo, tenant, knownParts[1].p, knownParts[2].p, []impl.Write{
			{At: start + 36, Word: "\x02\x00\x01\x02\x00\x00\x00\x01"}, {At: start + 40, Word: "\x01docs\x00\x00\x00"}, {At: start + 46, Word: "\x02\x00\x00\x01\x02\x00\x00\x00"}, {At: start + 48, Word: "\x03a1\x00\x00\x00\x00\x00"},
			{At: start + 54, Word: "\x00\x00\x00\x03\x04\x00\x00\x00"}, {At: start + 62, Word: "\x01\x00\x21\x00\x05\x00\x00\x00"}, {At: start + 63, Word: "12345678"}, {At: start + 64, Word: "\x04\x00\x01\x02abcd"}, {At: start + 65, Word: "\x01\x00\x00\x01efgh"},
		})
	}
}

func TestReadPartOfKnownWords(t *testing.T) {
	for _, c := range knownParts {
		words := map[int]string{c.serialAt: c.serial}
		for k := range c.count {
			words[c.first+k] = zeroWord
		}
		for at, word := range c.words {
			words[at] = word
		}
		m := noisyMemory(c.g)
		for at, word := range words {
			m = impl.StoreWord(m, at, word)
		}
		checkReadPart(t, m, c.g, c.tenant, c.p, true)
		checkReadPart(t, settled(m), c.g, c.tenant, c.p, true)
		for tenant := range c.g.Tenants {
			if tenant != c.tenant {
				checkNoPart(t, m, c.g, tenant)
			}
		}
	}
}

// The partitions of all tenants are read back, and none where nothing was stored.
func TestReadPartForEachTenant(t *testing.T) {
	source := rand.New(rand.NewSource(37))
	for _, g := range validGeos() {
		m, parts := noisyMemory(g), []impl.Part{}
		for tenant := range g.Tenants {
			checkNoPart(t, m, g, tenant)
		}
		for tenant := range g.Tenants {
			parts = append(parts, randomPart(source, g))
			m = withPart(m, g, tenant, parts[tenant])
		}
		for tenant, p := range parts {
			checkReadPart(t, m, g, tenant, p, true)
			checkReadPart(t, settled(m), g, tenant, p, true)
		}
		for _, tenant := range []int{-1, g.Tenants, g.Tenants + 1, math.MinInt, math.MaxInt} {
			checkNoPart(t, m, g, tenant)
		}
	}
}

// What PartWrites and SerialWord give is what ReadPart takes, and a memory of zero words holds no partition.
func TestPartsComeBackFromMemory(t *testing.T) {
	for _, c := range validParts(2, validGeos()) {
		for tenant := range c.g.Tenants {
			m := impl.MemoryNew(impl.LinesIn(c.g))
			empty := impl.Part{States: make([]int, c.g.Pages), Inodes: make([]impl.Inode, c.g.Inodes)}
			checkReadPart(t, m, c.g, tenant, empty, true)
			for _, w := range impl.PartWrites(c.g, tenant, c.p) {
				m = impl.StoreWord(m, w.At, w.Word)
			}
			m = impl.StoreWord(m, impl.SerialAt(c.g, tenant), impl.SerialWord(c.p.Serial))
			checkReadPart(t, m, c.g, tenant, c.p, true)
		}
	}
}

// ReadPart sees what is current, whether it is durable or not.
func TestReadPartOfCells(t *testing.T) {
	source := rand.New(rand.NewSource(38))
	for _, c := range validParts(2, sampleGeos()) {
		other := randomPart(source, c.g)
		other.Serial = c.p.Serial ^ 1
		for tenant := range c.g.Tenants {
			old := settled(withPart(noisyMemory(c.g), c.g, tenant, other))
			m := withPart(old, c.g, tenant, c.p)
			checkReadPart(t, m, c.g, tenant, c.p, true)
			checkReadPart(t, impl.FallenMemory(m, 0), c.g, tenant, other, true)
			// Of the lines only the first few survive, or only those of a few words.
			for _, picks := range []int{1, 3, 15, math.MaxInt, source.Int()} {
				checkPartAsStored(t, impl.FallenMemory(m, picks), c.g, tenant)
			}
		}
	}
}

// partPlaces are the indexes of the serial word, the states and the inodes.
func partPlaces(g impl.Geo, tenant int) []int {
	places := []int{partStart(g, tenant) + 2}
	for k := range 2 + 8*g.Inodes {
		places = append(places, partStart(g, tenant)+36+k)
	}
	return places
}

// Each byte of each word is given every value in turn, or a few for the larger partitions.
func TestReadPartForEachByte(t *testing.T) {
	for number, c := range knownParts {
		m := settled(withPart(noisyMemory(c.g), c.g, c.tenant, c.p))
		values := []int{0, 1, 2, 3, 5, 6, 12, 13, 33, 97, 128, 255}
		if number == 0 || number == 2 {
			values = values[:0]
			for b := range 256 {
				values = append(values, b)
			}
		}
		still, tried := 0, 0
		for _, place := range partPlaces(c.g, c.tenant) {
			for at := 8 * place; at < 8*place+8; at++ {
				for _, b := range values {
					changed := impl.Memory{Kept: m.Kept[:at] + encodedNumber(b, 1) + m.Kept[at+1:]}
					tried++
					if checkPartAsStored(t, changed, c.g, c.tenant) {
						still++
					}
				}
			}
		}
		if still < 50 || tried-still < 50 {
			t.Errorf("partition %d: %d of its %d changed words are read", number, still, tried)
		}
	}
}

// Each of the words becomes another one in turn; a word that cannot be decoded leaves no partition at all.
func TestReadPartWithOneOtherWord(t *testing.T) {
	source := rand.New(rand.NewSource(39))
	for _, c := range validParts(3, sampleGeos()) {
		tenant := source.Intn(c.g.Tenants)
		m := settled(withPart(noisyMemory(c.g), c.g, tenant, c.p))
		checkReadPart(t, m, c.g, tenant, c.p, true)
		for _, at := range partPlaces(c.g, tenant) {
			for _, word := range []string{"12345678", "\xff\xff\xff\xff\xff\xff\xff\xff"} {
				checkPartAsStored(t, impl.StoreWord(m, at, word), c.g, tenant)
			}
			for _, word := range []string{zeroWord, impl.WordAt(m, at+1), impl.WordAt(m, at-1), "\x00\x00\x00\x01\x00\x00\x00\x00", "\x02\x00\x00\x00\x00\x00\x00\x00", "\x03ab\x00\x00\x00\x00\x00", "\x05\x00\x00\x01abcd"} {
				checkPartAsStored(t, impl.StoreWord(m, at, word), c.g, tenant)
			}
			// The last byte of these words is one that has to be zero, but for a key, a mark and the seventh byte of a name.
			word := impl.WordAt(m, at)
			checkPartAsStored(t, impl.StoreWord(m, at, word[:7]+"\x01"), c.g, tenant)
		}
		for _, serial := range []string{"\x00\x00\x01\x01\x00\x00\x00\x00", "\x00\x00\x00\x00\x00\x00\x00\x01", "\xff\xff\xff\xff\x00\x00\x00\x00", "12345678"} {
			checkNoPart(t, impl.StoreWord(m, partStart(c.g, tenant)+2, serial), c.g, tenant)
		}
		for k, at := range partPlaces(c.g, tenant) {
			// Behind the serial word and the two of the states, the second one of each inode may be a key, which any word is.
			if k < 3 || (k-3)%8 != 1 || c.p.Inodes[(k-3)/8].Kind != impl.InFile {
				checkNoPart(t, impl.StoreWord(m, at, strings.Repeat("\x0d", 8)), c.g, tenant)
			}
		}
	}
}

// The commit word, the journal, the pages, the unused words and what is of other tenants do not matter.
func TestReadPartWithOtherWordsAround(t *testing.T) {
	source := rand.New(rand.NewSource(40))
	for _, c := range validParts(1, sampleGeos()) {
		tenant := source.Intn(c.g.Tenants)
		m := withPart(noisyMemory(c.g), c.g, tenant, c.p)
		own := partPlaces(c.g, tenant)
		for at := range partStart(c.g, c.g.Tenants) {
			if !slices.Contains(own, at) {
				checkReadPart(t, impl.StoreWord(m, at, randomText(source, 8)), c.g, tenant, c.p, true)
			}
		}
		for _, lines := range []int{impl.LinesIn(c.g), impl.LinesIn(c.g) + 1, impl.LinesIn(c.g) + 2, 500, 1000} {
			checkReadPart(t, withPart(impl.MemoryNew(lines), c.g, tenant, c.p), c.g, tenant, c.p, true)
		}
	}
}

// All lines have to be there, also those of other tenants and those of pages that are not read.
func TestReadPartOfTooFewLines(t *testing.T) {
	for _, c := range validParts(1, sampleGeos()) {
		m := noisyMemory(c.g)
		for tenant := range c.g.Tenants {
			m = withPart(m, c.g, tenant, c.p)
		}
		m = settled(m)
		for tenant := range c.g.Tenants {
			checkReadPart(t, m, c.g, tenant, c.p, true)
			checkReadPart(t, impl.Memory{Kept: m.Kept + fourLines[:16]}, c.g, tenant, c.p, true)
			for fewer := 1; fewer <= len(m.Kept)/16; fewer++ {
				checkNoPart(t, impl.Memory{Kept: m.Kept[:len(m.Kept)-16*fewer]}, c.g, tenant)
			}
			short := impl.Memory{Kept: m.Kept[:len(m.Kept)-16]}
			checkNoPart(t, impl.StoreWord(short, 2, zeroWord), c.g, tenant)
			checkNoPart(t, impl.Memory{}, c.g, tenant)
		}
	}
}

func TestReadPartOfInvalidMemories(t *testing.T) {
	for _, c := range validParts(1, sampleGeos()) {
		for tenant := range c.g.Tenants {
			m := settled(withPart(noisyMemory(c.g), c.g, tenant, c.p))
			lines := len(m.Kept) / 16
			for _, more := range []int{1, 7, 8, 9, 15, 17, 16*(1001-lines) + 8, 16 * (1001 - lines), 16 * (1002 - lines)} {
				checkNoPart(t, impl.Memory{Kept: m.Kept + strings.Repeat("+", more)}, c.g, tenant)
			}
			for _, cells := range [][]impl.Cell{
				{{Line: lines, Text: cellText(1)}}, {{Line: -1, Text: cellText(1)}}, {{Line: math.MaxInt, Text: cellText(1)}}, {{Line: math.MinInt, Text: cellText(1)}},
				{{Line: 0, Text: cellText(1)[1:]}}, {{Line: 0}}, {{Line: 0, Text: cellText(1) + "+"}}, {{Line: 0, Text: cellText(1)}, {Line: 0, Text: cellText(1)}}, {{Line: 2, Text: cellText(1)}, {Line: 0, Text: cellText(1)}},
			} {
				checkNoPart(t, impl.Memory{Kept: m.Kept, Cells: cells}, c.g, tenant)
			}
		}
	}
	for _, m := range invalidMemories() {
		checkNoPart(t, m, leastGeo, 0)
	}
}

func TestReadPartOfInvalidLayouts(t *testing.T) {
	memories := []impl.Memory{{}, impl.MemoryNew(1), impl.MemoryNew(37), impl.MemoryNew(102), impl.MemoryNew(201), impl.MemoryNew(1000), settled(withPart(noisyMemory(middleGeo), middleGeo, 0, knownParts[1].p))}
	for _, g := range invalidGeos() {
		for _, m := range memories {
			for _, tenant := range []int{-1, 0, 1, 2, 3, math.MinInt, math.MaxInt} {
				checkNoPart(t, m, g, tenant)
			}
		}
	}
}

func TestReadPartOfNoTenant(t *testing.T) {
	for _, c := range validParts(1, sampleGeos()) {
		m := noisyMemory(c.g)
		for tenant := range c.g.Tenants {
			m = withPart(m, c.g, tenant, c.p)
		}
		// Another partition follows behind that of the last tenant.
		long := withPart(impl.Memory{Kept: settled(m).Kept + noisyMemory(c.g).Kept}, c.g, c.g.Tenants, c.p)
		for _, tenant := range append([]int{c.g.Tenants, c.g.Tenants + 1, 3}, numbersOfNothing...) {
			checkNoPart(t, m, c.g, tenant)
			checkNoPart(t, long, c.g, tenant)
		}
	}
}

// The words of one layout are read with another one, which finds other words in their places.
func TestReadPartWithOtherLayouts(t *testing.T) {
	for _, c := range validParts(1, sampleGeos()) {
		for _, m := range []impl.Memory{impl.MemoryNew(impl.LinesIn(c.g)), impl.MemoryNew(1000)} {
			for tenant := range c.g.Tenants {
				m = withPart(m, c.g, tenant, c.p)
			}
			m = settled(m)
			for _, g := range differentPlaces() {
				for tenant := range g.Tenants {
					checkPartAsStored(t, m, g, tenant)
				}
			}
		}
	}
}

// Words that can be decoded are read, whatever else is wrong with the partition.
func TestReadPartOfPartsThatAreNotValid(t *testing.T) {
	source := rand.New(rand.NewSource(41))
	for _, g := range sampleGeos() {
		wrong := 0
		for range 40 {
			p := impl.Part{Serial: source.Intn(16777216), States: randomStates(source, g.Pages)}
			for range g.Inodes {
				p.Inodes = append(p.Inodes, randomInode(source))
			}
			tenant := source.Intn(g.Tenants)
			checkReadPart(t, withPart(noisyMemory(g), g, tenant, p), g, tenant, p, true)
			if !checkPartAsRequired(t, g, p) {
				wrong++
				checkInvalidPart(t, g, p)
			}
		}
		if wrong < 30 {
			t.Errorf("%#v: %d of 40 partitions are not valid", g, wrong)
		}
	}
}

func TestSerialWords(t *testing.T) {
	for _, c := range []struct {
		n    int
		want string
	}{
		{-1, ""}, {0, "\x00\x00\x00\x00\x00\x00\x00\x00"}, {1, "\x00\x00\x01\x00\x00\x00\x00\x00"}, {255, "\x00\x00\xff\x00\x00\x00\x00\x00"}, {256, "\x00\x01\x00\x00\x00\x00\x00\x00"},
		{65535, "\x00\xff\xff\x00\x00\x00\x00\x00"}, {65536, "\x01\x00\x00\x00\x00\x00\x00\x00"}, {66051, "\x01\x02\x03\x00\x00\x00\x00\x00"}, {16777214, "\xff\xff\xfe\x00\x00\x00\x00\x00"},
		{16777215, "\xff\xff\xff\x00\x00\x00\x00\x00"}, {16777216, ""}, {16777217, ""}, {math.MinInt, ""}, {math.MaxInt, ""},
	} {
		checkSerialWord(t, c.n, c.want)
	}
	for _, n := range numbersTooFar {
		checkSerialWord(t, n, "")
	}
}

// Numbers over the whole range, and those around each power of two, come back from their words.
func TestSerialWordsComeBack(t *testing.T) {
	numbers := []int{0, 16777215}
	for n := 1; n < 16777216; n += 1 + n/50 {
		numbers = append(numbers, n)
	}
	for bit := range 24 {
		numbers = append(numbers, 1<<bit, 1<<bit-1, 16777215-1<<bit)
	}
	m := withPart(noisyMemory(leastGeo), leastGeo, 0, knownParts[0].p)
	for _, n := range numbers {
		checkSerialWord(t, n, writtenSerial(n))
		want := partCopy(knownParts[0].p)
		want.Serial = n
		checkReadPart(t, impl.StoreWord(m, 2, impl.SerialWord(n)), leastGeo, 0, want, true)
	}
}

// A partition that comes up again is treated as it was before, whatever was done to other ones in between.
func TestPartsOfLaterCalls(t *testing.T) {
	for range 3 {
		for _, c := range knownParts {
			checkValidPart(t, c.g, c.p)
			checkInvalidPart(t, c.g, impl.Part{})
			checkNoPart(t, impl.Memory{}, c.g, c.tenant)
			checkReadPart(t, withPart(noisyMemory(c.g), c.g, c.tenant, c.p), c.g, c.tenant, c.p, true)
			checkDepths(t, treeOf(-1, 0, 3, 2), 0, 1, -1, -1)
			checkPartNew(t, leastGeo, knownParts[0].p)
		}
	}
}

// surroundedPart returns the partition with all its lists lying among other elements, which do not count, and with these a check that nothing has changed and a way to change it all.
func surroundedPart(p impl.Part) (impl.Part, func() bool, func()) {
	same, spoil := []func() bool{}, []func(){}
	given := p
	states, allStates := amongOthers(p.States, impl.PgUsed)
	inodes, allInodes := amongOthers(p.Inodes, impl.Inode{Kind: impl.InDir, Entries: links(1, 2, 3, 9)})
	for i, n := range inodes {
		recs, allRecs := amongOthers(n.Recs, impl.Rec{Page: 1, Serial: 7, Mark: "none"})
		entries, allEntries := amongOthers(n.Entries, impl.Entry{Inode: 1, Name: "none"})
		inodes[i].Recs, inodes[i].Entries = recs, entries
		oldRecs, oldEntries := slices.Clone(allRecs), slices.Clone(allEntries)
		same = append(same, func() bool { return slices.Equal(allRecs, oldRecs) && slices.Equal(allEntries, oldEntries) })
		spoil = append(spoil, func() {
			overwrite(allRecs, impl.Rec{Page: 99})
			overwrite(allEntries, impl.Entry{Inode: 99})
		})
	}
	given.States, given.Inodes = states, inodes
	oldStates, oldInodes := slices.Clone(allStates), slices.Clone(allInodes)
	same = append(same, func() bool {
		return slices.Equal(allStates, oldStates) && slices.EqualFunc(allInodes, oldInodes, sameInode)
	})
	spoil = append(spoil, func() {
		overwrite(allStates, 99)
		overwrite(allInodes, impl.Inode{Kind: 99})
	})
	unchanged := func() bool { return !slices.ContainsFunc(same, func(f func() bool) bool { return !f() }) }
	return given, unchanged, func() {
		for _, f := range spoil {
			f()
		}
	}
}

// someParts are valid and invalid ones.
func someParts() []storedPart {
	source := rand.New(rand.NewSource(42))
	parts := append(validParts(3, sampleGeos()), storedPart{impl.Geo{}, impl.Part{}}, storedPart{middleGeo, impl.Part{}})
	for _, c := range validParts(3, sampleGeos()) {
		changedAnywhere(source, &c.g, &c.p)
		parts = append(parts, c)
	}
	return parts
}

// checkOwnWrites makes a result twice from two partitions: neither result changes with the other one or with a partition, nor do these with a result.
func checkOwnWrites(t *testing.T, what string, result func(a impl.Part, b impl.Part) []impl.Write, a impl.Part, b impl.Part) {
	t.Helper()
	givenA, sameA, spoilA := surroundedPart(a)
	givenB, sameB, spoilB := surroundedPart(b)
	one, two, alone := result(givenA, givenB), result(givenA, givenB), result(a, b)
	if !slices.Equal(one, alone) {
		t.Fatalf("%s of %#v and %#v: got %#v, and %#v with other elements around their lists", what, a, b, alone, one)
	}
	overwrite(two, impl.Write{At: -99, Word: "changed "})
	if !slices.Equal(one, alone) {
		t.Fatalf("%s of %#v and %#v: two results share memory", what, a, b)
	}
	if !sameA() || !sameB() {
		t.Fatalf("%s of %#v and %#v: a partition has changed", what, a, b)
	}
	spoilA()
	spoilB()
	if !slices.Equal(one, alone) {
		t.Fatalf("%s of %#v and %#v: a result shares memory with a partition", what, a, b)
	}
}

func TestPartsAreLeftAsTheyAre(t *testing.T) {
	for _, c := range someParts() {
		given, unchanged, _ := surroundedPart(c.p)
		for i := -1; i <= 13; i++ {
			checkLinksTo(t, given, i, impl.LinksTo(c.p, i))
			checkUsersOf(t, given, i, impl.UsersOf(c.p, i))
			checkDepthOf(t, given, i, impl.DepthOf(c.p, i))
		}
		if impl.PartOk(c.g, given) != impl.PartOk(c.g, c.p) || !unchanged() {
			t.Errorf("PartOk(%#v, %#v) depends on what is around its lists or changes it", c.g, c.p)
		}
		for tenant := range 3 {
			checkOwnWrites(t, "PartWrites", func(a impl.Part, _ impl.Part) []impl.Write { return impl.PartWrites(c.g, tenant, a) }, c.p, c.p)
			for _, other := range []impl.Part{c.p, {}, impl.PartNew(c.g)} {
				checkOwnWrites(t, "Changed", func(a impl.Part, b impl.Part) []impl.Write { return impl.Changed(c.g, tenant, a, b) }, c.p, other)
				checkOwnWrites(t, "Changed", func(a impl.Part, b impl.Part) []impl.Write { return impl.Changed(c.g, tenant, a, b) }, other, c.p)
			}
		}
	}
}

// One partition may be both arguments.
func TestChangedOfAPartAndItself(t *testing.T) {
	for _, c := range someParts() {
		given, unchanged, _ := surroundedPart(c.p)
		checkChanged(t, c.g, 0, given, given, nil)
		if !unchanged() {
			t.Errorf("Changed(%#v) of a partition and itself changes it: %#v", c.g, c.p)
		}
	}
}

// checkOwnPart makes a partition three times: overwriting one of its lists changes no other list and no other result.
func checkOwnPart(t *testing.T, what string, result func() impl.Part) {
	t.Helper()
	one, two := result(), result()
	kept := partCopy(one)
	for i := range two.Inodes {
		for _, list := range []string{"Recs", "Entries"} {
			part := result()
			want := partCopy(part)
			if list == "Recs" {
				overwrite(part.Inodes[i].Recs, impl.Rec{Page: 99})
				want.Inodes[i].Recs = part.Inodes[i].Recs
			} else {
				overwrite(part.Inodes[i].Entries, impl.Entry{Inode: 99})
				want.Inodes[i].Entries = part.Inodes[i].Entries
			}
			if !samePart(part, want) {
				t.Errorf("%s: the %s of inode %d share memory with others", what, list, i)
			}
		}
		overwrite(two.Inodes[i].Recs, impl.Rec{Page: 99})
		overwrite(two.Inodes[i].Entries, impl.Entry{Inode: 99})
	}
	overwrite(two.States, 99)
	overwrite(two.Inodes, impl.Inode{Kind: 99})
	if !samePart(one, kept) {
		t.Errorf("%s: two results share memory", what)
	}
}

func TestNewPartsShareNoMemory(t *testing.T) {
	for _, g := range append(validGeos(), impl.Geo{}) {
		checkOwnPart(t, "PartNew", func() impl.Part { return impl.PartNew(g) })
	}
}

func TestMemoriesOfPartsAreLeftAsTheyAre(t *testing.T) {
	for _, c := range validParts(3, sampleGeos()) {
		for tenant := range c.g.Tenants {
			m := withPart(noisyMemory(c.g), c.g, tenant, c.p)
			cells, whole := amongCells(m.Cells)
			before := slices.Clone(whole)
			given := impl.Memory{Kept: m.Kept, Cells: cells}
			checkOwnPart(t, "ReadPart", func() impl.Part {
				p, _ := impl.ReadPart(given, c.g, tenant)
				return p
			})
			p, _ := impl.ReadPart(given, c.g, tenant)
			if !slices.Equal(whole, before) || given.Kept != m.Kept || !samePart(p, c.p) {
				t.Fatalf("ReadPart(%s, %#v, %d): got %#v, or the memory has changed", shown(m), c.g, tenant, p)
			}
			overwrite(whole, impl.Cell{Line: -99, Text: "changed"})
			if !samePart(p, c.p) {
				t.Fatalf("ReadPart(%s, %#v, %d): the result shares memory with the cells", shown(m), c.g, tenant)
			}
		}
	}
}

// partTexts are the texts of all inodes.
func partTexts(p impl.Part) []string {
	texts := []string{}
	for _, n := range p.Inodes {
		texts = append(texts, inodeTexts(n)...)
	}
	return texts
}

func writeTexts(writes []impl.Write) []string {
	texts := []string{}
	for _, w := range writes {
		texts = append(texts, w.Word)
	}
	return texts
}

func TestTextsOfPartsAreNew(t *testing.T) {
	for _, c := range validParts(2, sampleGeos()) {
		other := impl.PartNew(c.g)
		checkTextsNew(t, "PartNew", partTexts(other), partTexts(impl.PartNew(c.g)))
		checkTextsNew(t, "PartWrites", writeTexts(impl.PartWrites(c.g, 0, c.p)), partTexts(c.p))
		checkTextsNew(t, "Changed", writeTexts(impl.Changed(c.g, 0, other, c.p)), append(partTexts(c.p), partTexts(other)...))
		checkTextsNew(t, "SerialWord", []string{impl.SerialWord(c.p.Serial)}, []string{impl.SerialWord(c.p.Serial)})
		m := withPart(noisyMemory(c.g), c.g, 0, c.p)
		for _, m := range []impl.Memory{m, settled(m)} {
			p, _ := impl.ReadPart(m, c.g, 0)
			checkTextsNew(t, "ReadPart", partTexts(p), textsIn(m))
		}
	}
}
