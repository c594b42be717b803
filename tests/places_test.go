package tests

import (
	"math"
	"math/rand"
	"strconv"
	"testing"

	"loop.example/g00969/impl"
)

// placeOwner is what one word of the memory is for.
type placeOwner struct {
	tenant, kind int
}

// Numbers that are no field of a Geo, tenant, entry, inode or page, those among them that become small in fewer bits or if they are multiplied by 4 or 8.
var numbersOfNothing = []int{
	-1, -2, -3, -4, -8, -38, -102, -1000, math.MinInt, math.MinInt + 1, math.MinInt + 2, math.MinInt + 3, math.MinInt + 4, math.MinInt / 2,
	math.MaxInt, math.MaxInt - 1, math.MaxInt - 2, math.MaxInt / 2, math.MaxInt/8 + 1, 1 << 8, 1<<8 + 1, 1<<8 + 5, 1 << 16, 1<<16 + 2, 1 << 32, 1<<32 + 1, 1<<32 + 2, 1<<32 + 5,
	1 << 60, 1<<60 + 2, 1 << 61, 1<<61 + 1, 1<<61 + 2, 1<<61 + 5, 1 << 62, 1<<62 + 1, 1<<62 + 2, 1<<62 + 5, -(1 << 61), 2 - 1<<61, 5 - 1<<61, -(1 << 62), 2 - 1<<62, 5 - 1<<62,
}

// validGeos are all valid ones, from the numbers that the specification gives.
func validGeos() []impl.Geo {
	geos := []impl.Geo{}
	for _, tenants := range []int{1, 2, 3} {
		for _, inodes := range []int{2, 3, 4, 5, 6} {
			for _, pages := range []int{5, 6, 7, 8, 9, 10, 11, 12} {
				for quota := 1; quota+4 <= pages; quota++ {
					geos = append(geos, impl.Geo{Tenants: tenants, Pages: pages, Inodes: inodes, Quota: quota})
				}
			}
		}
	}
	return geos
}

// differentPlaces are the valid ones of the least quota, as places do not depend on the quota.
func differentPlaces() []impl.Geo {
	geos := []impl.Geo{}
	for _, g := range validGeos() {
		if g.Quota == 1 {
			geos = append(geos, g)
		}
	}
	return geos
}

// invalidGeos have one field, two fields or all of them outside their ranges, by little or by much.
func invalidGeos() []impl.Geo {
	geos := []impl.Geo{
		{}, {Tenants: 1}, {Pages: 5}, {Inodes: 2}, {Quota: 1}, {Tenants: 4, Pages: 13, Inodes: 7, Quota: 9},
		{Tenants: math.MaxInt, Pages: math.MaxInt, Inodes: math.MaxInt, Quota: math.MaxInt}, {Tenants: math.MinInt, Pages: math.MinInt, Inodes: math.MinInt, Quota: math.MinInt},
		{Tenants: -1, Pages: -1, Inodes: -1, Quota: -1}, {Tenants: 2, Pages: math.MinInt, Inodes: 4, Quota: math.MaxInt}, {Tenants: 2, Pages: math.MinInt + 3, Inodes: 4, Quota: math.MaxInt},
		{Tenants: 2, Pages: math.MaxInt, Inodes: 4, Quota: math.MaxInt - 4}, {Tenants: 2, Pages: math.MinInt, Inodes: 4, Quota: math.MaxInt - 3}, {Tenants: 2, Pages: 4, Inodes: 4, Quota: 0},
		{Tenants: 1 << 32, Pages: 8, Inodes: 1 << 31, Quota: 3}, {Tenants: 2, Pages: 1 << 62, Inodes: 1 << 61, Quota: 3}, {Tenants: -2, Pages: 8, Inodes: -4, Quota: 3},
	}
	for _, g := range []impl.Geo{{Tenants: 1, Pages: 5, Inodes: 2, Quota: 1}, {Tenants: 2, Pages: 8, Inodes: 4, Quota: 3}, {Tenants: 3, Pages: 12, Inodes: 6, Quota: 8}} {
		for _, n := range append([]int{0}, numbersOfNothing...) {
			geos = append(geos,
				impl.Geo{Tenants: n, Pages: g.Pages, Inodes: g.Inodes, Quota: g.Quota}, impl.Geo{Tenants: g.Tenants, Pages: n, Inodes: g.Inodes, Quota: g.Quota},
				impl.Geo{Tenants: g.Tenants, Pages: g.Pages, Inodes: n, Quota: g.Quota}, impl.Geo{Tenants: g.Tenants, Pages: g.Pages, Inodes: g.Inodes, Quota: n})
		}
		geos = append(geos,
			impl.Geo{Tenants: 4, Pages: g.Pages, Inodes: g.Inodes, Quota: g.Quota}, impl.Geo{Tenants: g.Tenants, Pages: 4, Inodes: g.Inodes, Quota: g.Quota},
			impl.Geo{Tenants: g.Tenants, Pages: 13, Inodes: g.Inodes, Quota: g.Quota}, impl.Geo{Tenants: g.Tenants, Pages: g.Pages, Inodes: 1, Quota: g.Quota},
			impl.Geo{Tenants: g.Tenants, Pages: g.Pages, Inodes: 7, Quota: g.Quota}, impl.Geo{Tenants: g.Tenants, Pages: g.Pages, Inodes: g.Inodes, Quota: g.Pages - 3})
	}
	return geos
}

// bigPart is how many words the partition of one tenant has at the most.
const bigPart = 38 + 8*6 + 4*12

func checkGeoOk(t *testing.T, g impl.Geo, want bool) {
	t.Helper()
	if got := impl.GeoOk(g); got != want {
		t.Errorf("GeoOk(%+v): got %v, want %v", g, got, want)
	}
}

func checkPartWords(t *testing.T, g impl.Geo, want int) {
	t.Helper()
	if got := impl.PartWords(g); got != want {
		t.Errorf("PartWords(%+v): got %d, want %d", g, got, want)
	}
}

func checkLinesIn(t *testing.T, g impl.Geo, want int) {
	t.Helper()
	if got := impl.LinesIn(g); got != want {
		t.Errorf("LinesIn(%+v): got %d, want %d", g, got, want)
	}
}

func checkCommitAt(t *testing.T, g impl.Geo, tenant int, want int) {
	t.Helper()
	if got := impl.CommitAt(g, tenant); got != want {
		t.Errorf("CommitAt(%+v, %d): got %d, want %d", g, tenant, got, want)
	}
}

func checkSerialAt(t *testing.T, g impl.Geo, tenant int, want int) {
	t.Helper()
	if got := impl.SerialAt(g, tenant); got != want {
		t.Errorf("SerialAt(%+v, %d): got %d, want %d", g, tenant, got, want)
	}
}

func checkJournalAt(t *testing.T, g impl.Geo, tenant int, i int, want int) {
	t.Helper()
	if got := impl.JournalAt(g, tenant, i); got != want {
		t.Errorf("JournalAt(%+v, %d, %d): got %d, want %d", g, tenant, i, got, want)
	}
}

func checkInodeAt(t *testing.T, g impl.Geo, tenant int, i int, want int) {
	t.Helper()
	if got := impl.InodeAt(g, tenant, i); got != want {
		t.Errorf("InodeAt(%+v, %d, %d): got %d, want %d", g, tenant, i, got, want)
	}
}

func checkPageAt(t *testing.T, g impl.Geo, tenant int, p int, want int) {
	t.Helper()
	if got := impl.PageAt(g, tenant, p); got != want {
		t.Errorf("PageAt(%+v, %d, %d): got %d, want %d", g, tenant, p, got, want)
	}
}

func checkPartAt(t *testing.T, g impl.Geo, at int, wantTenant int, wantKind int) {
	t.Helper()
	if tenant, kind := impl.PartAt(g, at); tenant != wantTenant || kind != wantKind {
		t.Errorf("PartAt(%+v, %d): got %d and %d, want %d and %d", g, at, tenant, kind, wantTenant, wantKind)
	}
}

// checkNoPlaces asks for all places that a number could stand for, of which there must be none.
func checkNoPlaces(t *testing.T, g impl.Geo, tenant int, i int) {
	t.Helper()
	checkJournalAt(t, g, tenant, i, -1)
	checkInodeAt(t, g, tenant, i, -1)
	checkPageAt(t, g, tenant, i, -1)
}

// wordOwners walks over the places of all data and of the unused words, and returns what each word is for. It
// complains if two of them share a word.
func wordOwners(t *testing.T, g impl.Geo) map[int]placeOwner {
	t.Helper()
	owners := map[int]placeOwner{}
	own := func(tenant int, kind int, first int, words int) {
		t.Helper()
		for at := first; at < first+words; at++ {
			if other, ok := owners[at]; ok {
				t.Errorf("%+v: word %d is of tenant %d and kind %d, and of tenant %d and kind %d", g, at, other.tenant, other.kind, tenant, kind)
			}
			owners[at] = placeOwner{tenant, kind}
		}
	}
	for tenant := range g.Tenants {
		part := tenant * impl.PartWords(g)
		own(tenant, impl.PtCommit, impl.CommitAt(g, tenant), 1)
		own(tenant, impl.PtNone, part+1, 1)
		own(tenant, impl.PtSerial, impl.SerialAt(g, tenant), 1)
		own(tenant, impl.PtNone, part+3, 1)
		for i := range 16 {
			own(tenant, impl.PtJournal, impl.JournalAt(g, tenant, i), 2)
		}
		own(tenant, impl.PtStates, part+36, 2)
		for i := range g.Inodes {
			own(tenant, impl.PtInode, impl.InodeAt(g, tenant, i), 8)
		}
		for p := range g.Pages {
			own(tenant, impl.PtPage, impl.PageAt(g, tenant, p), 4)
		}
	}
	return owners
}

// writtenKind is the kind of a word within a partition, from the numbers that the specification gives.
func writtenKind(g impl.Geo, place int) int {
	kinds := []int{1, 0, 2, 0}
	for _, part := range []struct{ words, kind int }{{32, 3}, {2, 4}, {8 * g.Inodes, 5}, {4 * g.Pages, 6}} {
		for range part.words {
			kinds = append(kinds, part.kind)
		}
	}
	return kinds[place]
}

func TestPlacesConstants(t *testing.T) {
	limits := []int{impl.MaxTenants, impl.MaxPages, impl.MaxInodes, impl.Shadow, impl.MaxJournal}
	for i, want := range []int{3, 12, 6, 4, 16} {
		if limits[i] != want {
			t.Errorf("limit %d: got %d, want %d", i, limits[i], want)
		}
	}
	kinds := []int{impl.PtNone, impl.PtCommit, impl.PtSerial, impl.PtJournal, impl.PtStates, impl.PtInode, impl.PtPage}
	for want, kind := range kinds {
		if kind != want {
			t.Errorf("kind %d: got %d", want, kind)
		}
	}
}

func TestGeoOkAtTheEndsOfEachRange(t *testing.T) {
	for _, c := range []struct {
		g    impl.Geo
		want bool
	}{
		{impl.Geo{Tenants: 2, Pages: 8, Inodes: 4, Quota: 3}, true},
		{impl.Geo{Tenants: 1, Pages: 5, Inodes: 2, Quota: 1}, true},
		{impl.Geo{Tenants: 3, Pages: 12, Inodes: 6, Quota: 8}, true},
		{impl.Geo{Tenants: 0, Pages: 8, Inodes: 4, Quota: 3}, false},
		{impl.Geo{Tenants: 1, Pages: 8, Inodes: 4, Quota: 3}, true},
		{impl.Geo{Tenants: 3, Pages: 8, Inodes: 4, Quota: 3}, true},
		{impl.Geo{Tenants: 4, Pages: 8, Inodes: 4, Quota: 3}, false},
		{impl.Geo{Tenants: 2, Pages: 4, Inodes: 4, Quota: 1}, false},
		{impl.Geo{Tenants: 2, Pages: 4, Inodes: 4, Quota: 0}, false},
		{impl.Geo{Tenants: 2, Pages: 5, Inodes: 4, Quota: 1}, true},
		{impl.Geo{Tenants: 2, Pages: 12, Inodes: 4, Quota: 1}, true},
		{impl.Geo{Tenants: 2, Pages: 13, Inodes: 4, Quota: 1}, false},
		{impl.Geo{Tenants: 2, Pages: 8, Inodes: 1, Quota: 3}, false},
		{impl.Geo{Tenants: 2, Pages: 8, Inodes: 2, Quota: 3}, true},
		{impl.Geo{Tenants: 2, Pages: 8, Inodes: 6, Quota: 3}, true},
		{impl.Geo{Tenants: 2, Pages: 8, Inodes: 7, Quota: 3}, false},
		{impl.Geo{Tenants: 2, Pages: 8, Inodes: 4, Quota: 0}, false},
		{impl.Geo{Tenants: 2, Pages: 8, Inodes: 4, Quota: 1}, true},
		{impl.Geo{Tenants: 2, Pages: 8, Inodes: 4, Quota: 4}, true},
		{impl.Geo{Tenants: 2, Pages: 8, Inodes: 4, Quota: 5}, false},
		{impl.Geo{Tenants: 2, Pages: 5, Inodes: 4, Quota: 2}, false},
		{impl.Geo{Tenants: 2, Pages: 12, Inodes: 4, Quota: 8}, true},
		{impl.Geo{Tenants: 2, Pages: 12, Inodes: 4, Quota: 9}, false},
	} {
		checkGeoOk(t, c.g, c.want)
	}
}

// Every combination of the numbers in and around the ranges and of some far from them.
func TestGeoOkForEveryCombination(t *testing.T) {
	valid := map[impl.Geo]bool{}
	for _, g := range validGeos() {
		valid[g] = true
	}
	if len(valid) != 540 {
		t.Errorf("the tests know %d valid Geos, want 540", len(valid))
	}
	numbers := []int{math.MinInt, math.MinInt + 3, -5, math.MaxInt - 4, math.MaxInt}
	for n := -1; n <= 14; n++ {
		numbers = append(numbers, n)
	}
	for _, tenants := range numbers {
		for _, pages := range numbers {
			for _, inodes := range numbers {
				for _, quota := range numbers {
					g := impl.Geo{Tenants: tenants, Pages: pages, Inodes: inodes, Quota: quota}
					checkGeoOk(t, g, valid[g])
				}
			}
		}
	}
}

func TestGeoOkOfInvalidOnes(t *testing.T) {
	for _, g := range invalidGeos() {
		checkGeoOk(t, g, false)
	}
}

func TestPlacesOfAKnownGeo(t *testing.T) {
	g := impl.Geo{Tenants: 2, Pages: 8, Inodes: 4, Quota: 3}
	checkPartWords(t, g, 102)
	checkLinesIn(t, g, 102)
	checkCommitAt(t, g, 0, 0)
	checkCommitAt(t, g, 1, 102)
	checkSerialAt(t, g, 0, 2)
	checkSerialAt(t, g, 1, 104)
	checkJournalAt(t, g, 0, 0, 4)
	checkJournalAt(t, g, 0, 1, 6)
	checkJournalAt(t, g, 0, 15, 34)
	checkJournalAt(t, g, 1, 0, 106)
	checkJournalAt(t, g, 1, 15, 136)
	checkInodeAt(t, g, 0, 0, 38)
	checkInodeAt(t, g, 0, 1, 46)
	checkInodeAt(t, g, 0, 3, 62)
	checkInodeAt(t, g, 1, 3, 164)
	checkPageAt(t, g, 0, 0, 70)
	checkPageAt(t, g, 0, 7, 98)
	checkPageAt(t, g, 1, 0, 172)
	checkPageAt(t, g, 1, 7, 200)
	checkPartAt(t, g, 0, 0, impl.PtCommit)
	checkPartAt(t, g, 1, 0, impl.PtNone)
	checkPartAt(t, g, 2, 0, impl.PtSerial)
	checkPartAt(t, g, 3, 0, impl.PtNone)
	checkPartAt(t, g, 4, 0, impl.PtJournal)
	checkPartAt(t, g, 35, 0, impl.PtJournal)
	checkPartAt(t, g, 36, 0, impl.PtStates)
	checkPartAt(t, g, 37, 0, impl.PtStates)
	checkPartAt(t, g, 38, 0, impl.PtInode)
	checkPartAt(t, g, 69, 0, impl.PtInode)
	checkPartAt(t, g, 70, 0, impl.PtPage)
	checkPartAt(t, g, 101, 0, impl.PtPage)
	checkPartAt(t, g, 102, 1, impl.PtCommit)
	checkPartAt(t, g, 103, 1, impl.PtNone)
	checkPartAt(t, g, 203, 1, impl.PtPage)
	checkPartAt(t, g, 204, -1, impl.PtNone)
}

func TestPlacesOfTheSmallestAndTheLargestGeo(t *testing.T) {
	small := impl.Geo{Tenants: 1, Pages: 5, Inodes: 2, Quota: 1}
	checkPartWords(t, small, 74)
	checkLinesIn(t, small, 37)
	checkPageAt(t, small, 0, 0, 54)
	checkPageAt(t, small, 0, 4, 70)
	checkPartAt(t, small, 73, 0, impl.PtPage)
	checkPartAt(t, small, 74, -1, impl.PtNone)
	large := impl.Geo{Tenants: 3, Pages: 12, Inodes: 6, Quota: 8}
	checkPartWords(t, large, 134)
	checkLinesIn(t, large, 201)
	checkCommitAt(t, large, 2, 268)
	checkInodeAt(t, large, 2, 5, 346)
	checkPageAt(t, large, 2, 0, 354)
	checkPageAt(t, large, 2, 11, 398)
	checkPartAt(t, large, 401, 2, impl.PtPage)
	checkPartAt(t, large, 402, -1, impl.PtNone)
}

func TestEachWordBelongsToOneTenantAndOneKind(t *testing.T) {
	for _, g := range validGeos() {
		owners := wordOwners(t, g)
		words := 2 * impl.LinesIn(g)
		if len(owners) != words || words == 0 {
			t.Errorf("%+v: %d words belong to something, want the %d words of all lines", g, len(owners), words)
		}
		for at := range words {
			owner, ok := owners[at]
			if !ok {
				t.Errorf("%+v: word %d belongs to nothing", g, at)
				continue
			}
			checkPartAt(t, g, at, owner.tenant, owner.kind)
		}
		checkPartAt(t, g, words, -1, impl.PtNone)
		checkPartAt(t, g, -1, -1, impl.PtNone)
	}
}

func TestPlacesAreTheWrittenOnes(t *testing.T) {
	for _, g := range validGeos() {
		words := 38 + 8*g.Inodes + 4*g.Pages
		checkPartWords(t, g, words)
		checkLinesIn(t, g, g.Tenants*words/2)
		for tenant := range g.Tenants {
			part := tenant * words
			checkCommitAt(t, g, tenant, part)
			checkSerialAt(t, g, tenant, part+2)
			for i := range 16 {
				checkJournalAt(t, g, tenant, i, part+4+2*i)
			}
			for i := range g.Inodes {
				checkInodeAt(t, g, tenant, i, part+38+8*i)
			}
			for p := range g.Pages {
				checkPageAt(t, g, tenant, p, part+38+8*g.Inodes+4*p)
			}
			for place := range words {
				checkPartAt(t, g, part+place, tenant, writtenKind(g, place))
			}
		}
	}
}

// The places are words of a memory: what is stored at one of them is found there and nowhere else.
func TestWordsStoredAtTheirPlaces(t *testing.T) {
	for _, g := range []impl.Geo{{Tenants: 1, Pages: 5, Inodes: 2, Quota: 1}, {Tenants: 2, Pages: 8, Inodes: 4, Quota: 3}, {Tenants: 3, Pages: 12, Inodes: 6, Quota: 8}} {
		m := impl.MemoryNew(impl.LinesIn(g))
		stored := map[int]string{}
		store := func(first int, words int) {
			for at := first; at < first+words; at++ {
				stored[at] = "word-" + strconv.Itoa(100+len(stored))
				m = impl.StoreWord(m, at, stored[at])
			}
		}
		for tenant := range g.Tenants {
			store(impl.CommitAt(g, tenant), 1)
			store(impl.SerialAt(g, tenant), 1)
			for i := range impl.MaxJournal {
				store(impl.JournalAt(g, tenant, i), 2)
			}
			for i := range g.Inodes {
				store(impl.InodeAt(g, tenant, i), 8)
			}
			for p := range g.Pages {
				store(impl.PageAt(g, tenant, p), 4)
			}
		}
		for at, word := range stored {
			checkWordAt(t, m, at, word)
		}
		// All but the two unused words and the page states of each tenant.
		if want := g.Tenants * (impl.PartWords(g) - 4); len(stored) != want {
			t.Errorf("%+v: %d words are stored, want %d", g, len(stored), want)
		}
		checkWordAt(t, m, 2*impl.LinesIn(g), "")
	}
}

func TestPlacesDoNotDependOnTheQuota(t *testing.T) {
	for _, g := range validGeos() {
		least := g
		least.Quota = 1
		checkPartWords(t, g, impl.PartWords(least))
		checkLinesIn(t, g, impl.LinesIn(least))
		last := g.Tenants - 1
		checkCommitAt(t, g, last, impl.CommitAt(least, last))
		checkSerialAt(t, g, last, impl.SerialAt(least, last))
		checkJournalAt(t, g, last, 15, impl.JournalAt(least, last, 15))
		checkInodeAt(t, g, last, g.Inodes-1, impl.InodeAt(least, last, g.Inodes-1))
		checkPageAt(t, g, last, g.Pages-1, impl.PageAt(least, last, g.Pages-1))
	}
}

func TestPartAtOutsideEveryPartition(t *testing.T) {
	for _, g := range validGeos() {
		words := g.Tenants * (38 + 8*g.Inodes + 4*g.Pages)
		checkPartAt(t, g, words-1, g.Tenants-1, impl.PtPage)
		for at := words; at <= 4*bigPart; at++ {
			checkPartAt(t, g, at, -1, impl.PtNone)
		}
		for at := -1; at >= -2*bigPart; at-- {
			checkPartAt(t, g, at, -1, impl.PtNone)
		}
		for _, at := range numbersOfNothing {
			if at < 0 || at >= words {
				checkPartAt(t, g, at, -1, impl.PtNone)
			}
		}
	}
}

func TestPlacesOfTenantsThatDoNotExist(t *testing.T) {
	for _, g := range differentPlaces() {
		for _, tenant := range append([]int{g.Tenants, g.Tenants + 1, 4}, numbersOfNothing...) {
			checkCommitAt(t, g, tenant, -1)
			checkSerialAt(t, g, tenant, -1)
			for i := -1; i <= 16; i++ {
				checkNoPlaces(t, g, tenant, i)
			}
			for _, i := range numbersOfNothing {
				checkNoPlaces(t, g, tenant, i)
			}
		}
	}
}

func TestPlacesOfNumbersThatDoNotExist(t *testing.T) {
	for _, g := range differentPlaces() {
		for tenant := range g.Tenants {
			for _, i := range numbersOfNothing {
				checkNoPlaces(t, g, tenant, i)
			}
			for i := 16; i <= bigPart; i++ {
				checkNoPlaces(t, g, tenant, i)
			}
			for i := g.Inodes; i <= 16; i++ {
				checkInodeAt(t, g, tenant, i, -1)
			}
			for p := g.Pages; p <= 16; p++ {
				checkPageAt(t, g, tenant, p, -1)
			}
		}
	}
}

func TestPlacesOfInvalidGeos(t *testing.T) {
	for _, g := range invalidGeos() {
		checkPartWords(t, g, 0)
		checkLinesIn(t, g, 0)
		for _, tenant := range append([]int{0, 1, 2, 3, g.Tenants - 1, g.Tenants}, numbersOfNothing...) {
			checkCommitAt(t, g, tenant, -1)
			checkSerialAt(t, g, tenant, -1)
			for _, i := range []int{-1, 0, 1, 5, 11, 12, 15, 16, math.MinInt, math.MaxInt, 1 << 61, 1 << 62, g.Inodes - 1, g.Inodes, g.Pages - 1, g.Pages} {
				checkNoPlaces(t, g, tenant, i)
			}
		}
		for at := -1; at <= 3*bigPart; at++ {
			checkPartAt(t, g, at, -1, impl.PtNone)
		}
		for _, at := range numbersOfNothing {
			checkPartAt(t, g, at, -1, impl.PtNone)
		}
	}
}

// Most random numbers are far outside every range, so that products of them overflow.
func TestPlacesOfRandomNumbers(t *testing.T) {
	source := rand.New(rand.NewSource(11))
	number := func() int { return int(source.Uint64()) >> source.Intn(64) }
	for range 20000 {
		g := impl.Geo{Tenants: number(), Pages: number(), Inodes: number(), Quota: number()}
		tenant, i := number(), number()
		if g.Tenants >= 1 && g.Tenants <= 3 && g.Pages >= 5 && g.Pages <= 12 && g.Inodes >= 2 && g.Inodes <= 6 && g.Quota >= 1 && g.Quota <= g.Pages-4 {
			continue
		}
		checkGeoOk(t, g, false)
		checkPartWords(t, g, 0)
		checkLinesIn(t, g, 0)
		checkCommitAt(t, g, tenant, -1)
		checkSerialAt(t, g, tenant, -1)
		checkNoPlaces(t, g, tenant, i)
		checkPartAt(t, g, i, -1, impl.PtNone)
	}
}
