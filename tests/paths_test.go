package tests

import (
	"math/rand"
	"regexp"
	"slices"
	"strconv"
	"strings"
	"testing"

	"loop.example/g00969/impl"
)

// The forms of a path, without its length: with names of any length, and with those that no name exceeds.
var (
	pathForm      = regexp.MustCompile(`^(/|(/[a-z0-9]+)+)$`)
	shortNameForm = regexp.MustCompile(`^(/|(/[a-z0-9]{1,7})+)$`)
)

// knownPaths are valid ones, written out with all that the functions return for each.
var knownPaths = []struct {
	path         string
	names        []string
	parent, last string
}{
	{"/", nil, "", ""},
	{"/a", []string{"a"}, "/", "a"},
	{"/0", []string{"0"}, "/", "0"},
	{"/docs", []string{"docs"}, "/", "docs"},
	{"/abcdefg", []string{"abcdefg"}, "/", "abcdefg"},
	{"/zzzzzz9", []string{"zzzzzz9"}, "/", "zzzzzz9"},
	{"/a/b", []string{"a", "b"}, "/a", "b"},
	{"/a/a", []string{"a", "a"}, "/a", "a"},
	{"/ab/c", []string{"ab", "c"}, "/ab", "c"},
	{"/a/bc", []string{"a", "bc"}, "/a", "bc"},
	{"/docs/2026/nov", []string{"docs", "2026", "nov"}, "/docs/2026", "nov"},
	{"/a/a/a/a", []string{"a", "a", "a", "a"}, "/a/a/a", "a"},
	{"/9/z/0/a/5", []string{"9", "z", "0", "a", "5"}, "/9/z/0/a", "5"},
	{"/abcdefg/hijklmn/opqrstu/vwxyz01/2345678/9abcdef/ghijklm/nop", []string{"abcdefg", "hijklmn", "opqrstu", "vwxyz01", "2345678", "9abcdef", "ghijklm", "nop"}, "/abcdefg/hijklmn/opqrstu/vwxyz01/2345678/9abcdef/ghijklm", "nop"},
}

// invalidPaths are texts that are no paths, with the code of each.
var invalidPaths = []struct {
	path string
	code int
}{
	{"", 1}, {"a", 1}, {"a/", 1}, {"a/b", 1}, {"ab", 1}, {" /a", 1}, {"a/b/", 1}, {"0", 1}, {"\x00/a", 1},
	{"//", 1}, {"///", 1}, {"////", 1}, {"//a", 1}, {"///a", 1}, {"/a//b", 1}, {"/a///b", 1}, {"/a//", 1}, {"/a///", 1}, {"//a/b", 1}, {"///a/b", 1}, {"/a/b//", 1}, {"/a/b///", 1}, {"/a//b/c", 1}, {"/a/b//c", 1}, {"//a//b//", 1},
	{"/a/", 1}, {"/a/b/", 1}, {"/abcdefg/", 1},
	{"/A", 1}, {"/a.b", 1}, {"/.", 1}, {"/..", 1}, {"/a/..", 1}, {"/a/./b", 1}, {"/a b", 1}, {"/ ", 1}, {"/a ", 1}, {"/a_b", 1}, {"/a-b", 1}, {"/a\x00", 1}, {"/\x00", 1}, {"/\n", 1}, {"/a\n", 1}, {"/a/b\n", 1}, {"/\n/a", 1}, {"\\a", 1}, {"/a\\b", 1},
	{"/\xff", 1}, {"/a\xff", 1}, {"/\x80/a", 1}, {"/a\xc3", 1}, {"/\xc3\xa9", 1}, {"/a\xcc\x81", 1}, {"/\xef\xbf\xbd", 1}, {"/\xf0\x9f\x98\x80", 1}, {"/\xe2\x88\x95a", 1}, {"/\xef\xbc\x8f", 1}, {"\xef\xbb\xbf/a", 1}, {"/\xed\xa0\x80", 1}, {"/\xc0\xaf", 1}, {"/\xd9\xa1", 1}, {"/\xef\xbd\x81", 1},
	{"/abcdefgh", 2}, {"/12345678", 2}, {"/a/abcdefgh", 2}, {"/abcdefgh/a", 2}, {"/a/abcdefgh/b", 2}, {"/abcdefghijklmnopqrstuvwxyz0123456789", 2}, {"/abcdefgh/abcdefgh", 2},
}

// A name that is too long counts only where nothing else is wrong.
var pathsWithBothFaults = []string{
	"/abcdefgh/.", "/./abcdefgh", "/abcdefgh.", "/.abcdefgh", "/abcd.efgh", "/abcdefgh/A/b", "/A/abcdefgh/b", "/abcdefgh\xff", "/\xff/abcdefgh", "/a/abcdefgh/b/\x00",
	"/abcdefgh/", "/a/abcdefgh/", "/abcdefgh//", "/abcdefgh//a", "/a//abcdefgh", "//abcdefgh", "///abcdefgh", "/abcdefgh///a", "abcdefgh", "abcdefgh/a", "abcdefgh/", "a/abcdefgh",
	"/" + strings.Repeat("a", 60), "/abcdefgh" + strings.Repeat("/a", 26), strings.Repeat("/a", 26) + "/abcdefgh", strings.Repeat("/a", 13) + "/abcdefgh" + strings.Repeat("/a", 13), "/" + strings.Repeat("a", 60) + "/",
	"/abcdefgh" + strings.Repeat("/a", 26) + "/", "/abcdefgh" + strings.Repeat("/.", 26), "/" + strings.Repeat("a", 1000), "/" + strings.Repeat("abcdefgh/", 1000) + "a",
}

// writtenCode is the code of a path by the letter of the specification.
func writtenCode(path string) int {
	switch {
	case len(path) > 60 || !pathForm.MatchString(path):
		return 1
	case !shortNameForm.MatchString(path):
		return 2
	}
	return 0
}

// inodeAt goes back from the end of a path, by the letter of the specification.
func inodeAt(p impl.Part, path string) int {
	if writtenCode(path) != 0 || len(p.Inodes) == 0 {
		return -1
	}
	if path == "/" {
		return 0
	}
	end := strings.LastIndexByte(path, '/')
	folder := inodeAt(p, path[:max(end, 1)])
	if folder < 0 || p.Inodes[folder].Kind != impl.InDir {
		return -1
	}
	entries := p.Inodes[folder].Entries
	k := slices.IndexFunc(entries, func(e impl.Entry) bool { return e.Name == path[end+1:] })
	if k < 0 || entries[k].Inode < 0 || entries[k].Inode >= len(p.Inodes) {
		return -1
	}
	return entries[k].Inode
}

// pathsDown goes down from inode 0, level by level, to the inodes whose first directory is on the level.
func pathsDown(p impl.Part) map[int]string {
	type place struct {
		folder int
		name   string
	}
	first, paths := map[int]place{}, map[int]string{}
	for folder, n := range slices.Backward(p.Inodes) {
		for _, e := range slices.Backward(n.Entries) {
			if n.Kind == impl.InDir {
				first[e.Inode] = place{folder, e.Name}
			}
		}
	}
	if len(p.Inodes) > 0 {
		paths[0] = ""
	}
	for range p.Inodes {
		for i := range p.Inodes {
			above, ok := paths[first[i].folder]
			if _, linked := first[i]; linked && ok && i != 0 {
				paths[i] = above + "/" + first[i].name
			}
		}
	}
	if len(p.Inodes) > 0 {
		paths[0] = "/"
	}
	return paths
}

func checkSplitPath(t *testing.T, path string, want []string, wantCode int) {
	t.Helper()
	if got, code := impl.SplitPath(path); !slices.Equal(got, want) || code != wantCode {
		t.Errorf("SplitPath(%.200q): got %q and %d, want %q and %d", path, got, code, want, wantCode)
	}
}

func checkJoinPath(t *testing.T, names []string, want string) {
	t.Helper()
	if got := impl.JoinPath(names); got != want {
		t.Errorf("JoinPath(%q): got %q, want %q", names, got, want)
	}
}

func checkParentAndLast(t *testing.T, path string, parent string, last string) {
	t.Helper()
	if got := impl.ParentOf(path); got != parent {
		t.Errorf("ParentOf(%.200q): got %q, want %q", path, got, parent)
	}
	if got := impl.LastOf(path); got != last {
		t.Errorf("LastOf(%.200q): got %q, want %q", path, got, last)
	}
}

func checkIsUnder(t *testing.T, path string, folder string, want bool) {
	t.Helper()
	if got := impl.IsUnder(path, folder); got != want {
		t.Errorf("IsUnder(%.200q, %.200q): got %v, want %v", path, folder, got, want)
	}
}

func checkFindInode(t *testing.T, p impl.Part, path string, want int) {
	t.Helper()
	if got := impl.FindInode(p, path); got != want {
		t.Errorf("FindInode(%#v, %.200q): got %d, want %d", p, path, got, want)
	}
}

func checkPathTo(t *testing.T, p impl.Part, i int, want string) {
	t.Helper()
	if got := impl.PathTo(p, i); got != want {
		t.Errorf("PathTo(%#v, %d): got %q, want %q", p, i, got, want)
	}
}

// checkValidPath takes a path with its names, of which there may be none.
func checkValidPath(t *testing.T, path string, names []string) {
	t.Helper()
	checkSplitPath(t, path, names, 0)
	checkJoinPath(t, names, path)
	if len(names) == 0 {
		checkParentAndLast(t, path, "", "")
	} else {
		end := strings.LastIndexByte(path, '/')
		checkParentAndLast(t, path, path[:max(end, 1)], path[end+1:])
	}
	checkIsUnder(t, path, path, false)
	checkIsUnder(t, path, "/", path != "/")
	checkIsUnder(t, "/", path, false)
	back, _ := impl.SplitPath(path)
	checkJoinPath(t, back, path)
}

// checkInvalidPath takes what is no path, for which no function returns anything.
func checkInvalidPath(t *testing.T, path string, code int) {
	t.Helper()
	checkSplitPath(t, path, nil, code)
	checkParentAndLast(t, path, "", "")
	for _, other := range []string{"/", "/a", "/a/b", "/abcdefg", path, path + "/a"} {
		checkIsUnder(t, path, other, false)
		checkIsUnder(t, other, path, false)
	}
	for _, p := range []impl.Part{{}, impl.PartNew(leastGeo), knownParts[3].p} {
		checkFindInode(t, p, path, -1)
	}
}

// checkPathAsWritten takes any text.
func checkPathAsWritten(t *testing.T, path string) int {
	t.Helper()
	code := writtenCode(path)
	switch {
	case code != 0:
		checkInvalidPath(t, path, code)
	case path == "/":
		checkValidPath(t, path, nil)
	default:
		checkValidPath(t, path, strings.Split(path, "/")[1:])
	}
	return code
}

// checkPaths wants the path of each inode, "" for those without one, and none for what is no inode.
func checkPaths(t *testing.T, p impl.Part, want ...string) {
	t.Helper()
	for i, path := range want {
		checkPathTo(t, p, i, path)
	}
	for _, i := range append([]int{-1, len(p.Inodes), len(p.Inodes) + 1}, numbersTooFar...) {
		checkPathTo(t, p, i, "")
	}
}

// checkPathsAsWritten takes any partition and looks for each of the given paths and for those of all inodes.
func checkPathsAsWritten(t *testing.T, p impl.Part, paths []string) {
	t.Helper()
	down := pathsDown(p)
	for i := -1; i <= len(p.Inodes)+1; i++ {
		checkPathTo(t, p, i, down[i])
		checkFindInode(t, p, down[i], inodeAt(p, down[i]))
	}
	for _, path := range paths {
		checkFindInode(t, p, path, inodeAt(p, path))
	}
}

// renamed gives the entries of each directory other names of every length, which are ascending and distinct in it.
func renamed(source *rand.Rand, p impl.Part) impl.Part {
	p = partCopy(p)
	for _, n := range p.Inodes {
		names := []string{}
		for len(names) < len(n.Entries) {
			if name := randomName(source); !slices.Contains(names, name) {
				names = append(names, name)
			}
		}
		slices.Sort(names)
		for k := range n.Entries {
			n.Entries[k].Name = names[k]
		}
	}
	return p
}

// partsWithNames are valid partitions, of which some have the same names in several directories.
func partsWithNames(more int, geos []impl.Geo) []storedPart {
	source := rand.New(rand.NewSource(51))
	parts := validParts(more, geos)
	for _, c := range validParts(more, geos) {
		parts = append(parts, storedPart{c.g, renamed(source, c.p)})
	}
	return parts
}

// randomPath has names of one to most bytes and at least the given length, unless it is "/".
func randomPath(source *rand.Rand, length int, most int) string {
	var path strings.Builder
	for path.Len() < length {
		path.WriteByte('/')
		for range 1 + source.Intn(most) {
			path.WriteByte("abcdefghijklmnopqrstuvwxyz0123456789"[source.Intn(36)])
		}
	}
	return path.String()
}

// chainOf has a directory for each name, one within the other, and inode 0 above them.
func chainOf(names ...string) impl.Part {
	p := dirsOf(nil)
	for i, name := range names {
		p.Inodes[i].Entries = []impl.Entry{{Inode: i + 1, Name: name}}
		p.Inodes = append(p.Inodes, dirOf())
	}
	return p
}

func TestPathsConstants(t *testing.T) {
	codes := []int{
		impl.ErPath, impl.ErName, impl.ErNone, impl.ErNotDir, impl.ErIsDir, impl.ErThere, impl.ErFull, impl.ErInodes, impl.ErRoot, impl.ErNotEmpty, impl.ErInside, impl.ErRange, impl.ErQuota, impl.ErBusy, impl.ErTenant, impl.ErAsk, impl.ErMount,
	}
	for i, code := range codes {
		if code != i+1 {
			t.Errorf("got %d as code %d", code, i+1)
		}
	}
	if impl.MaxPath != 60 {
		t.Errorf("got %d as MaxPath, want 60", impl.MaxPath)
	}
}

func TestKnownPaths(t *testing.T) {
	for _, c := range knownPaths {
		checkValidPath(t, c.path, c.names)
		checkParentAndLast(t, c.path, c.parent, c.last)
	}
}

func TestInvalidPaths(t *testing.T) {
	for _, c := range invalidPaths {
		checkInvalidPath(t, c.path, c.code)
	}
}

func TestPathsWhereBothCodesApply(t *testing.T) {
	for _, path := range pathsWithBothFaults {
		checkInvalidPath(t, path, impl.ErPath)
	}
	// Without the other fault the name counts.
	checkInvalidPath(t, "/abcdefgh"+strings.Repeat("/a", 25), impl.ErName)
	checkInvalidPath(t, "/"+strings.Repeat("a", 59), impl.ErName)
	checkInvalidPath(t, "/"+strings.Repeat("a", 58), impl.ErName)
}

// The long name is alone, ahead of others, behind others, and between them.
func TestPathsForEachLengthOfAName(t *testing.T) {
	for length := range 80 {
		for _, letter := range []string{"a", "z", "0", "9"} {
			name := strings.Repeat(letter, length)
			for _, path := range []string{"/" + name, "/" + name + "/b", "/b/" + name, "/b/" + name + "/c", "/b/c/" + name + "/d/e"} {
				want := 0
				switch {
				case length == 0 && path != "/" || len(path) > 60:
					want = 1
				case length > 7:
					want = 2
				}
				if code := checkPathAsWritten(t, path); code != want {
					t.Errorf("the test itself takes %q for one with the code %d, not %d", path, code, want)
				}
			}
		}
	}
}

func TestPathsAtTheGreatestLength(t *testing.T) {
	for _, c := range []struct {
		path string
		code int
	}{
		{strings.Repeat("/a", 29) + "/", 1}, {strings.Repeat("/a", 30), 0}, {strings.Repeat("/a", 29) + "/aa", 1}, {strings.Repeat("/a", 30) + "/", 1}, {strings.Repeat("/a", 31), 1},
		{strings.Repeat("/abcdefg", 7) + "/ab", 0}, {strings.Repeat("/abcdefg", 7) + "/abc", 0}, {strings.Repeat("/abcdefg", 7) + "/abcd", 1}, {strings.Repeat("/abcdefg", 7) + "/abcdefg", 1},
		{"/abc" + strings.Repeat("/abcdefg", 7), 0}, {"/abcd" + strings.Repeat("/abcdefg", 7), 1}, {strings.Repeat("/a", 300), 1}, {strings.Repeat("/abcdefg", 10000), 1}, {strings.Repeat("/", 60), 1}, {strings.Repeat("/", 61), 1},
		{strings.Repeat("a", 60), 1}, {strings.Repeat("a", 61), 1}, {strings.Repeat("/ab", 20), 0}, {"/ab" + strings.Repeat("/ab", 20), 1}, {strings.Repeat("/0123", 12), 0}, {strings.Repeat("/0123", 12) + "4", 1},
	} {
		if code := checkPathAsWritten(t, c.path); code != c.code {
			t.Errorf("the test itself takes %.200q for one with the code %d, not %d", c.path, code, c.code)
		}
	}
}

// Every byte at every place.
func TestPathsForEachByte(t *testing.T) {
	for b := range 256 {
		want := 1
		if strings.IndexByte("abcdefghijklmnopqrstuvwxyz0123456789", byte(b)) >= 0 {
			want = 0
		}
		for _, name := range []string{"a", "z9", "abcdefg"} {
			for at := range len(name) {
				other := name[:at] + string([]byte{byte(b)}) + name[at+1:]
				for _, path := range []string{"/" + other, "/b/" + other, "/" + other + "/b", "/b/" + other + "/c"} {
					code := checkPathAsWritten(t, path)
					// A slash within a name makes two names of it.
					if b != '/' && code != want {
						t.Errorf("the test itself takes %q for one with the code %d, not %d", path, code, want)
					}
				}
			}
		}
		for _, path := range []string{"/", "/a", "/ab/cd", "/a/b/c", "/abcdefgh", "/abcdefg/b"} {
			for at := range len(path) + 1 {
				checkPathAsWritten(t, path[:at]+string([]byte{byte(b)})+path[at:])
				if at < len(path) {
					checkPathAsWritten(t, path[:at]+string([]byte{byte(b)})+path[at+1:])
				}
			}
		}
	}
}

// One to four slashes at each place of a path where there is one, and at its end.
func TestPathsWithConsecutiveSlashes(t *testing.T) {
	for _, names := range [][]string{{"a"}, {"a", "b"}, {"abcdefg", "0", "zz"}, {"a", "b", "c", "d"}} {
		for at := range len(names) + 1 {
			for count := range 5 {
				path := ""
				for i, name := range names {
					if i == at {
						path += strings.Repeat("/", count) + name
					} else {
						path += "/" + name
					}
				}
				if at == len(names) {
					path += strings.Repeat("/", count)
				}
				code := checkPathAsWritten(t, path)
				if count >= 2 && code != 1 {
					t.Errorf("the test itself takes %q for one with the code %d", path, code)
				}
			}
		}
	}
}

// Every text of slashes and letters of up to 14 bytes, and every shorter one of more bytes, some of which no name has.
func TestPathsOfEveryShortText(t *testing.T) {
	found := map[int]int{}
	for _, c := range []struct {
		bytes string
		most  int
	}{{"/a", 14}, {"/a.", 10}, {"/az09A", 6}} {
		for length := range c.most + 1 {
			text := make([]byte, length)
			var fill func(at int)
			fill = func(at int) {
				if at == length {
					found[checkPathAsWritten(t, string(text))]++
					return
				}
				for k := range len(c.bytes) {
					text[at] = c.bytes[k]
					fill(at + 1)
				}
			}
			fill(0)
		}
	}
	if found[0] < 1000 || found[1] < 1000 || found[2] < 30 {
		t.Errorf("the numbers of texts with each code are %v", found)
	}
}

func TestPathsOfManyLengths(t *testing.T) {
	source, found := rand.New(rand.NewSource(61)), map[int]int{}
	for range 4000 {
		path := randomPath(source, source.Intn(64), 7+source.Intn(3)/2)
		found[checkPathAsWritten(t, path)]++
		if path != "" {
			at := source.Intn(len(path))
			checkPathAsWritten(t, path[:at])
			checkPathAsWritten(t, path[at:])
			checkPathAsWritten(t, path[:at]+"/"+path[at:])
			checkPathAsWritten(t, path[:at]+randomText(source, 1)+path[at+1:])
		}
	}
	if found[0] < 100 || found[1] < 100 || found[2] < 100 {
		t.Errorf("the numbers of paths with each code are %v", found)
	}
}

func TestJoinPathOfAnyNames(t *testing.T) {
	checkJoinPath(t, nil, "/")
	checkJoinPath(t, []string{}, "/")
	for _, c := range []struct {
		names []string
		want  string
	}{
		{[]string{"a"}, "/a"}, {[]string{"a", "b"}, "/a/b"}, {[]string{"b", "a", "b"}, "/b/a/b"},
		{[]string{""}, "/"}, {[]string{"", ""}, "//"}, {[]string{"", "a"}, "//a"}, {[]string{"a", ""}, "/a/"}, {[]string{"a", "", "b"}, "/a//b"}, {[]string{"", "", ""}, "///"},
		{[]string{"/"}, "//"}, {[]string{"/a"}, "//a"}, {[]string{"a/b", "c/"}, "/a/b/c/"}, {[]string{"A", ".", ".."}, "/A/./.."}, {[]string{"abcdefgh"}, "/abcdefgh"}, {[]string{"\x00", "\xff\xfe", " "}, "/\x00/\xff\xfe/ "},
		{slices.Repeat([]string{"abcdefg"}, 100), strings.Repeat("/abcdefg", 100)}, {[]string{strings.Repeat("a", 5000), "b"}, "/" + strings.Repeat("a", 5000) + "/b"},
	} {
		checkJoinPath(t, c.names, c.want)
	}
	for _, name := range badNames() {
		checkJoinPath(t, []string{name}, "/"+name)
		checkJoinPath(t, []string{name, "b", name}, "/"+name+"/b/"+name)
	}
}

// Of the names of a path, each is at its place.
func TestPathsOfDistinctNames(t *testing.T) {
	names := []string{"a", "0", "bc", "a1", "def", "zz", "x", "y9"}
	everyList(names[:5], 4, func(list []string) { checkValidPath(t, "/"+strings.Join(list, "/"), list) })
	for count := range len(names) + 1 {
		checkValidPath(t, "/"+strings.Join(names[:count], "/"), names[:count])
	}
}

func TestIsUnderOfKnownPaths(t *testing.T) {
	for _, c := range []struct {
		path, folder string
		want         bool
	}{
		{"/", "/", false}, {"/a", "/", true}, {"/a/b", "/", true}, {"/", "/a", false}, {"/a", "/a", false}, {"/a/b", "/a", true}, {"/a/b/c", "/a", true}, {"/a/b/c", "/a/b", true}, {"/a/b", "/a/b", false}, {"/a", "/a/b", false},
		{"/ab", "/a", false}, {"/a", "/ab", false}, {"/ab/c", "/a", false}, {"/ab/c", "/ab", true}, {"/a/bc", "/a/b", false}, {"/a/b", "/a/bc", false}, {"/a/bc/d", "/a/b", false}, {"/b/a", "/a", false}, {"/a/b", "/b", false},
		{"/c/b/d", "/a/b", false}, {"/a/c/d", "/a/b", false}, {"/a/a", "/a", true}, {"/a/a/a", "/a/a", true}, {"/aa", "/a", false}, {"/a/b/c", "/a/c", false}, {"/0", "/", true}, {"/0/1", "/0", true}, {"/10", "/1", false},
		{"/a/b", "/a/", false}, {"/a/b/", "/a", false}, {"/a//b", "/a", false}, {"/a/b", "//", false}, {"/a/b", "", false}, {"", "/", false}, {"", "", false}, {"a/b", "/a", false}, {"a/b", "a", false}, {"/a", "//", false}, {"//a", "/", false},
		{"/A/b", "/A", false}, {"/abcdefgh/b", "/abcdefgh", false}, {"/a/abcdefgh", "/a", false}, {"/a/b", "/abcdefgh", false}, {"/a/.", "/a", false}, {"/a/\xff", "/a", false}, {"/\xff/a", "/\xff", false},
		{strings.Repeat("/a", 30), strings.Repeat("/a", 29), true}, {strings.Repeat("/a", 31), strings.Repeat("/a", 30), false}, {strings.Repeat("/a", 30), strings.Repeat("/a", 30), false}, {strings.Repeat("/a", 31), "/", false}, {"/a", strings.Repeat("/a", 31), false},
		{strings.Repeat("/a", 32), strings.Repeat("/a", 31), false}, {strings.Repeat("/abcdefg", 7) + "/abc", strings.Repeat("/abcdefg", 7), true}, {strings.Repeat("/abcdefg", 7) + "/abc", strings.Repeat("/abcdefg", 6) + "/abcdef", false},
	} {
		checkIsUnder(t, c.path, c.folder, c.want)
	}
}

// Every two of the valid paths with up to three names, and of some texts that are no paths.
func TestIsUnderForEveryTwoPaths(t *testing.T) {
	paths := []string{}
	everyList([]string{"a", "ab", "b", "0"}, 3, func(list []string) { paths = append(paths, "/"+strings.Join(list, "/")) })
	for _, c := range invalidPaths {
		paths = append(paths, c.path)
	}
	for _, path := range paths {
		for _, folder := range paths {
			want := writtenCode(path) == 0 && writtenCode(folder) == 0 && path != folder && (folder == "/" || strings.HasPrefix(path, folder+"/"))
			checkIsUnder(t, path, folder, want)
		}
	}
}

func TestIsUnderOfAPathAndItsParents(t *testing.T) {
	source := rand.New(rand.NewSource(62))
	for range 1000 {
		path := randomPath(source, 1+source.Intn(53), 7)
		for folder := impl.ParentOf(path); folder != ""; folder = impl.ParentOf(folder) {
			checkIsUnder(t, path, folder, true)
			checkIsUnder(t, folder, path, false)
			checkIsUnder(t, path+"/a", folder, len(path) <= 58)
			if folder != "/" {
				checkIsUnder(t, path, folder[:len(folder)-1]+"-", false)
				checkIsUnder(t, path, folder+"/", false)
			}
		}
	}
}

func TestFindInodeOfKnownParts(t *testing.T) {
	for _, c := range []struct {
		p     impl.Part
		paths map[string]int
	}{
		{knownParts[0].p, map[string]int{"/": 0, "/a": -1}},
		{knownParts[1].p, map[string]int{"/": 0, "/a": 1, "/b": -1, "/a/a": -1, "/a/b": -1, "/aa": -1}},
		{knownParts[2].p, map[string]int{"/": 0, "/docs": 1, "/docs/a1": 3, "/doc": -1, "/docs1": -1, "/a1": -1, "/docs/a": -1, "/docs/a11": -1, "/docs/docs": -1, "/docs/a1/a": -1, "/docs/a1/a1": -1, "/docs//a1": -1, "/docs/": -1, "docs": -1, "": -1}},
		{knownParts[3].p, map[string]int{"/": 0, "/0": 5, "/z9": 1, "/0/zzzzzz9": 3, "/z9/f": 4, "/0/f": -1, "/z9/zzzzzz9": -1, "/z": -1, "/z99": -1, "/0/0": -1, "/z9/f/f": -1, "/0/zzzzzz9/0": -1, "/0/zzzzzz": -1, "/0/zzzzzz99": -1, "/f": -1}},
		{chainOf("a", "b", "c", "d", "e"), map[string]int{"/": 0, "/a": 1, "/a/b": 2, "/a/b/c": 3, "/a/b/c/d": 4, "/a/b/c/d/e": 5, "/a/b/c/d/e/f": -1, "/b": -1, "/a/c": -1, "/a/b/c/e": -1, "/a/a/b": -1, "/b/c/d": -1}},
		{chainOf("a", "a", "a"), map[string]int{"/": 0, "/a": 1, "/a/a": 2, "/a/a/a": 3, "/a/a/a/a": -1}},
		{impl.PartNew(greatestGeo), map[string]int{"/": 0, "/a": -1, "/0": -1, "/a/b": -1}},
		{impl.Part{}, map[string]int{"/": -1, "/a": -1, "/a/b": -1, "": -1, "//": -1}},
	} {
		for path, want := range c.paths {
			checkFindInode(t, c.p, path, want)
		}
		for _, invalid := range invalidPaths {
			checkFindInode(t, c.p, invalid.path, -1)
		}
	}
}

func TestPathToOfKnownParts(t *testing.T) {
	checkPaths(t, impl.Part{}, "", "", "")
	checkPaths(t, impl.PartNew(leastGeo), "/", "")
	checkPaths(t, impl.PartNew(greatestGeo), "/", "", "", "", "", "")
	checkPaths(t, knownParts[1].p, "/", "/a", "", "")
	checkPaths(t, knownParts[2].p, "/", "/docs", "", "/docs/a1")
	checkPaths(t, knownParts[3].p, "/", "/z9", "", "/0/zzzzzz9", "/z9/f", "/0")
	checkPaths(t, chainOf("a", "b", "c", "d", "e"), "/", "/a", "/a/b", "/a/b/c", "/a/b/c/d", "/a/b/c/d/e")
	checkPaths(t, chainOf("a", "a", "a"), "/", "/a", "/a/a", "/a/a/a")
	checkPaths(t, treeOf(-1, 2, 3, 4, 5, 0), "/", "/n0/n0/n0/n0/n0", "/n0/n0/n0/n0", "/n0/n0/n0", "/n0/n0", "/n0")
	checkPaths(t, treeOf(-1, 0, 0, 1, 1, 0), "/", "/n0", "/n1", "/n0/n0", "/n0/n1", "/n2")
}

// checkRecovered takes a valid partition: the path of each inode that is not free leads to it, and each path that leads to an inode is its path.
func checkRecovered(t *testing.T, p impl.Part) {
	t.Helper()
	paths := []string{}
	for i, n := range p.Inodes {
		path := impl.PathTo(p, i)
		if (path == "") != (n.Kind == impl.InFree) {
			t.Errorf("PathTo(%#v, %d): got %q for an inode of kind %d", p, i, path, n.Kind)
		}
		if path == "" {
			continue
		}
		checkFindInode(t, p, path, i)
		if _, code := impl.SplitPath(path); code != 0 || slices.Contains(paths, path) {
			t.Errorf("PathTo(%#v, %d): got %q, which has the code %d or is that of another inode", p, i, path, code)
		}
		if i > 0 {
			folder := impl.FindInode(p, impl.ParentOf(path))
			if folder < 0 || !slices.Contains(p.Inodes[folder].Entries, impl.Entry{Inode: i, Name: impl.LastOf(path)}) {
				t.Errorf("PathTo(%#v, %d): got %q, whose parent is inode %d", p, i, path, folder)
			}
		}
		if names, _ := impl.SplitPath(path); len(names) != impl.DepthOf(p, i) {
			t.Errorf("PathTo(%#v, %d): got %q at the depth %d", p, i, path, impl.DepthOf(p, i))
		}
		paths = append(paths, path)
	}
	checkPathsAsWritten(t, p, pathsNear(paths))
	for _, path := range pathsNear(paths) {
		if i := impl.FindInode(p, path); i >= 0 {
			checkPathTo(t, p, i, path)
		}
	}
}

// pathsNear are the paths themselves and those that differ in a name or a byte.
func pathsNear(paths []string) []string {
	near := slices.Clone(paths)
	for _, path := range paths {
		near = append(near, path+"/a", path+"/n0", path+"a", path[:len(path)-1], "/n0"+path, path+path, path+"/", "/"+path, path[1:])
		for _, other := range paths {
			near = append(near, path+other)
		}
	}
	return near
}

func TestPathsOfValidPartsAreRecovered(t *testing.T) {
	for _, c := range partsWithNames(20, sampleGeos()) {
		if !impl.PartOk(c.g, c.p) {
			t.Fatalf("%#v is not valid for %#v", c.p, c.g)
		}
		checkRecovered(t, c.p)
		checkPaths(t, c.p, "/")
	}
	for _, c := range partsWithNames(1, validGeos()) {
		checkRecovered(t, c.p)
	}
}

// Each of five directories is in any one or in none, with all cycles among them.
func TestPathsForEveryChoiceOfOneDirectory(t *testing.T) {
	paths := []string{"/", "/n0", "/n1", "/n0/n0", "/n1/n0", "/n0/n1/n2", "/n0/n0/n0/n0/n0"}
	everyTree(func(p impl.Part) { checkPathsAsWritten(t, p, paths) })
}

// Each of three inodes is free, a file or a directory, with up to two entries of two names and of inodes that exist and that do not.
func TestPathsForEveryChoiceOfEntries(t *testing.T) {
	paths, lists := []string{}, [][]impl.Entry{}
	everyList([]string{"a", "b"}, 4, func(list []string) { paths = append(paths, "/"+strings.Join(list, "/")) })
	entries := []impl.Entry{{Inode: 0, Name: "b"}, {Inode: 1, Name: "a"}, {Inode: 1, Name: "b"}, {Inode: 2, Name: "a"}, {Inode: 2, Name: "b"}, {Inode: 3, Name: "a"}, {Inode: -1, Name: "b"}}
	everyList(entries, 2, func(list []impl.Entry) { lists = append(lists, slices.Clone(list)) })
	source := rand.New(rand.NewSource(63))
	for _, first := range lists {
		for _, second := range lists {
			p := dirsOf(first, second, lists[source.Intn(len(lists))])
			p.Inodes[source.Intn(3)].Kind = source.Intn(3)
			checkPathsAsWritten(t, p, paths)
			checkPathsAsWritten(t, dirsOf(first, second, nil), paths[:15])
		}
	}
}

// Only directories lead on, whatever entries the other inodes have. The last name may be that of any inode.
func TestPathsThroughInodesOfOtherKinds(t *testing.T) {
	for _, kind := range append([]int{-1, 0, 1, 3, 255, 256, 258}, numbersTooFar...) {
		p := chainOf("a", "b", "c")
		p.Inodes[2].Kind = kind
		checkFindInode(t, p, "/a", 1)
		checkFindInode(t, p, "/a/b", 2)
		checkFindInode(t, p, "/a/b/c", -1)
		checkPaths(t, p, "/", "/a", "/a/b", "")
		p.Inodes[1].Kind = kind
		checkFindInode(t, p, "/a", 1)
		checkFindInode(t, p, "/a/b", -1)
		checkPaths(t, p, "/", "/a", "", "")
		p.Inodes[0].Kind = kind
		checkFindInode(t, p, "/", 0)
		checkFindInode(t, p, "/a", -1)
		checkFindInode(t, p, "/a/b", -1)
		checkPaths(t, p, "/", "", "", "")
		p.Inodes[1].Kind, p.Inodes[2].Kind = impl.InDir, impl.InDir
		checkFindInode(t, p, "/", 0)
		checkFindInode(t, p, "/a/b/c", -1)
		checkPaths(t, p, "/", "", "", "")
	}
	p := impl.Part{Inodes: []impl.Inode{dirOf(impl.Entry{Inode: 1, Name: "a"}, impl.Entry{Inode: 2, Name: "b"}), fileOf(), {}}}
	p.Inodes[1].Entries, p.Inodes[2].Entries = links(1, 2), links(1, 2)
	for path, want := range map[string]int{"/a": 1, "/b": 2, "/a/n0": -1, "/a/n1": -1, "/b/n0": -1, "/b/n1": -1, "/a/b": -1} {
		checkFindInode(t, p, path, want)
	}
	checkPaths(t, p, "/", "/a", "/b")
}

// An entry of an inode that does not exist leads nowhere, neither at the end of a path nor within it, and has no path.
func TestPathsThroughWhatIsNoInode(t *testing.T) {
	for _, i := range append([]int{-1, 4, 5, 12, 255, 256, 257}, numbersTooFar...) {
		for folder := range 4 {
			p := chainOf("a", "b", "c")
			p.Inodes[folder].Entries = append(p.Inodes[folder].Entries, impl.Entry{Inode: i, Name: "x"})
			path := impl.PathTo(p, folder)
			if path == "/" {
				path = ""
			}
			checkFindInode(t, p, path+"/x", -1)
			checkFindInode(t, p, path+"/x/a", -1)
			checkFindInode(t, p, path+"/x/x", -1)
			checkFindInode(t, p, "/a/b/c", 3)
			checkPathTo(t, p, i, "")
			checkPaths(t, p, "/", "/a", "/a/b", "/a/b/c")
			p.Inodes[folder].Entries = []impl.Entry{{Inode: i, Name: "x"}, {Inode: 3, Name: "x"}, {Inode: 3, Name: "y"}}
			checkFindInode(t, p, path+"/x", -1)
			checkFindInode(t, p, path+"/y", 3)
			checkPathTo(t, p, i, "")
		}
	}
}

// Of two entries with one name the first one counts, also if only the second one leads on.
func TestFindInodeWithTwoEntriesOfOneName(t *testing.T) {
	p := dirsOf([]impl.Entry{{Inode: 1, Name: "a"}, {Inode: 2, Name: "a"}, {Inode: 2, Name: "b"}, {Inode: 1, Name: "b"}}, nil, []impl.Entry{{Inode: 3, Name: "c"}}, nil)
	for path, want := range map[string]int{"/a": 1, "/b": 2, "/a/c": -1, "/b/c": 3} {
		checkFindInode(t, p, path, want)
	}
	checkPaths(t, p, "/", "/a", "/a", "/a/c")
	p.Inodes[1].Kind = impl.InFile
	checkFindInode(t, p, "/a", 1)
	checkFindInode(t, p, "/a/c", -1)
	p.Inodes[0].Entries[0], p.Inodes[0].Entries[1] = p.Inodes[0].Entries[1], p.Inodes[0].Entries[0]
	checkFindInode(t, p, "/a", 2)
	checkFindInode(t, p, "/a/c", 3)
}

// Inode 0 may be linked to, and directories may be in one another: a path goes round as often as its names say.
func TestFindInodeInCycles(t *testing.T) {
	p := dirsOf([]impl.Entry{{Inode: 1, Name: "a"}}, []impl.Entry{{Inode: 0, Name: "up"}, {Inode: 1, Name: "self"}, {Inode: 2, Name: "b"}}, []impl.Entry{{Inode: 1, Name: "back"}})
	for path, want := range map[string]int{
		"/a/up": 0, "/a/up/a": 1, "/a/up/a/up": 0, "/a/self": 1, "/a/self/self/self/b": 2, "/a/b/back": 1, "/a/b/back/b/back/b": 2, "/a/b/back/up/a/b": 2, "/up": -1, "/a/b/up": -1, "/a/up/up": -1, "/a/up/a/up/a/up/a/up/a/up/a/up/a/up/a/up/a/up/a/up/a/up/a": 1,
	} {
		checkFindInode(t, p, path, want)
	}
	checkPaths(t, p, "/", "/a", "/a/b")
}

// There is no path out of a cycle that inode 0 is not in, also where it does lead into the cycle.
func TestPathToInCycles(t *testing.T) {
	checkPaths(t, treeOf(-1, 1), "/", "")
	checkPaths(t, treeOf(-1, 2, 1), "/", "", "")
	checkPaths(t, treeOf(-1, 0, 3, 2, 3, 4), "/", "/n0", "", "", "", "")
	checkPaths(t, treeOf(-1, 5, 1, 2, 3, 4), "/", "", "", "", "", "")
	checkPaths(t, treeOf(-1, 2, 4, 0, 5, 1), "/", "", "", "/n0", "", "")
	checkPaths(t, treeOf(0, 0, 1), "/", "/n1", "/n1/n0")
	checkPaths(t, treeOf(2, 0, 1), "/", "/n0", "/n0/n0")
	p := dirsOf([]impl.Entry{{Inode: 2, Name: "a"}}, []impl.Entry{{Inode: 2, Name: "b"}}, []impl.Entry{{Inode: 1, Name: "c"}})
	checkPaths(t, p, "/", "/a/c", "/a")
	p = dirsOf([]impl.Entry{{Inode: 3, Name: "a"}}, []impl.Entry{{Inode: 2, Name: "b"}}, []impl.Entry{{Inode: 1, Name: "c"}, {Inode: 3, Name: "d"}}, []impl.Entry{{Inode: 2, Name: "e"}})
	checkPaths(t, p, "/", "", "", "/a")
	checkFindInode(t, p, "/a/e/c", 1)
}

func TestPathToWithoutALink(t *testing.T) {
	checkPaths(t, treeOf(-1, -1, -1), "/", "", "")
	checkPaths(t, treeOf(-1, -1, 1, 2), "/", "", "", "")
	checkPaths(t, treeOf(-1, 0, -1, 2), "/", "/n0", "", "")
	checkPaths(t, impl.Part{Inodes: []impl.Inode{fileOf(), fileOf()}}, "/", "")
	checkPaths(t, impl.Part{Inodes: []impl.Inode{{}, {}}}, "/", "")
}

// Of the directories that link to an inode only the first one counts, and of its entries the first one with the inode.
func TestPathToWithTwoLinks(t *testing.T) {
	a, b, c := impl.Entry{Inode: 1, Name: "a"}, impl.Entry{Inode: 2, Name: "b"}, impl.Entry{Inode: 3, Name: "c"}
	d, e := impl.Entry{Inode: 3, Name: "d"}, impl.Entry{Inode: 3, Name: "e"}
	checkPaths(t, dirsOf([]impl.Entry{a, b, c, d}, nil, nil, nil), "/", "/a", "/b", "/c")
	checkPaths(t, dirsOf([]impl.Entry{d, c, b, a}, nil, nil, nil), "/", "/a", "/b", "/d")
	checkPaths(t, dirsOf([]impl.Entry{a, c}, []impl.Entry{b, d}, []impl.Entry{e}, nil), "/", "/a", "/a/b", "/c")
	checkPaths(t, dirsOf([]impl.Entry{a}, []impl.Entry{b, d, e}, []impl.Entry{c}, nil), "/", "/a", "/a/b", "/a/d")
	checkPaths(t, dirsOf([]impl.Entry{b}, []impl.Entry{c}, []impl.Entry{d, a}, nil), "/", "/b/a", "/b", "/b/a/c")
	checkPaths(t, dirsOf([]impl.Entry{b}, []impl.Entry{c}, []impl.Entry{d}, nil), "/", "", "/b", "")
	checkPaths(t, dirsOf(nil, []impl.Entry{c}, []impl.Entry{d}, nil), "/", "", "", "")
	p := dirsOf([]impl.Entry{a, b}, []impl.Entry{c}, []impl.Entry{d}, nil)
	for path, want := range map[string]int{"/a/c": 3, "/b/d": 3, "/a/d": -1, "/b/c": -1, "/c": -1} {
		checkFindInode(t, p, path, want)
	}
	checkPaths(t, p, "/", "/a", "/b", "/a/c")
}

// The path is that of the names, also where no path has them and FindInode does not follow it.
func TestPathsOfInvalidNames(t *testing.T) {
	for _, name := range badNames() {
		p := chainOf("a", name, "b")
		checkPaths(t, p, "/", "/a", "/a/"+name, "/a/"+name+"/b")
		checkFindInode(t, p, "/a/"+name, inodeAt(p, "/a/"+name))
		checkFindInode(t, p, "/a/"+name+"/b", -1)
		p = chainOf(name)
		checkPaths(t, p, "/", "/"+name)
		checkFindInode(t, p, "/"+name, inodeAt(p, "/"+name))
	}
	checkPaths(t, chainOf("", "", ""), "/", "/", "//", "///")
	checkFindInode(t, chainOf("", ""), "/", 0)
}

// Partitions with more inodes than any layout has: the path of the 30th directory has the greatest length, and of those below there is none that can be followed.
func TestPathsOfLongChains(t *testing.T) {
	names := slices.Repeat([]string{"a", "b"}, 20)
	p := chainOf(names...)
	for i := range p.Inodes {
		path := "/" + strings.Join(names[:i], "/")
		checkPathTo(t, p, i, path)
		if i <= 30 {
			checkFindInode(t, p, path, i)
		} else {
			checkFindInode(t, p, path, -1)
		}
	}
	long := slices.Repeat([]string{"abcdefg"}, 300)
	p = chainOf(long...)
	checkPathTo(t, p, 300, strings.Repeat("/abcdefg", 300))
	checkFindInode(t, p, strings.Repeat("/abcdefg", 7), 7)
	checkFindInode(t, p, strings.Repeat("/abcdefg", 8), -1)
	p.Inodes[0].Entries[0].Inode = 0
	checkPathTo(t, p, 300, "")
	p.Inodes[300].Entries = links(1)
	checkPathTo(t, p, 300, "")
	wide := impl.Part{Inodes: make([]impl.Inode, 500)}
	wide.Inodes[0].Kind = impl.InDir
	for i := 1; i < 500; i++ {
		wide.Inodes[0].Entries = append(wide.Inodes[0].Entries, impl.Entry{Inode: i, Name: "f" + strconv.Itoa(i)})
	}
	for i := 1; i < 500; i++ {
		checkPathTo(t, wide, i, "/f"+strconv.Itoa(i))
		checkFindInode(t, wide, "/f"+strconv.Itoa(i), i)
	}
	wide.Inodes[1], wide.Inodes[2] = impl.Inode{Kind: impl.InFile, Entries: links(3)}, dirOf(links(3)...)
	for path, want := range map[string]int{"/g1": -1, "/f500": -1, "/f1/n0": -1, "/f1/n1": -1, "/f2/n0": 3, "/f2/n1": -1, "/f3/n0": -1} {
		checkFindInode(t, wide, path, want)
	}
}

// Paths of valid partitions with a part of them changed at random.
func TestPathsOfChangedParts(t *testing.T) {
	source := rand.New(rand.NewSource(64))
	for range 20 {
		for _, c := range partsWithNames(3, sampleGeos()) {
			paths := []string{}
			for i, n := range c.p.Inodes {
				if n.Kind != impl.InFree {
					paths = append(paths, impl.PathTo(c.p, i))
				}
			}
			changedAnywhere(source, &c.g, &c.p)
			checkPathsAsWritten(t, c.p, pathsNear(paths))
		}
	}
}

// Paths are those of the partition that was stored.
func TestPathsComeBackFromMemory(t *testing.T) {
	for _, c := range partsWithNames(3, sampleGeos()) {
		tenant := c.g.Tenants - 1
		back, _ := impl.ReadPart(withPart(noisyMemory(c.g), c.g, tenant, c.p), c.g, tenant)
		for i := range c.p.Inodes {
			checkPathTo(t, back, i, impl.PathTo(c.p, i))
		}
		checkRecovered(t, back)
	}
}

// What comes up again is treated as before.
func TestPathsOfLaterCalls(t *testing.T) {
	for range 3 {
		for _, c := range knownPaths {
			checkValidPath(t, c.path, c.names)
			checkInvalidPath(t, "//", 1)
			checkInvalidPath(t, "/abcdefgh", 2)
			checkInvalidPath(t, c.path+".", 1)
		}
		for _, c := range knownParts {
			checkRecovered(t, c.p)
			checkPaths(t, impl.Part{})
		}
	}
}

func TestPartsOfPathsAreLeftAsTheyAre(t *testing.T) {
	for _, c := range append(someParts(), partsWithNames(3, sampleGeos())...) {
		given, unchanged, _ := surroundedPart(c.p)
		for i := -1; i <= 7; i++ {
			path := impl.PathTo(c.p, i)
			checkPathTo(t, given, i, path)
			for _, other := range []string{path, path + "/n0", "/none", "/n0/none"} {
				checkFindInode(t, given, other, impl.FindInode(c.p, other))
			}
		}
		if !unchanged() {
			t.Errorf("PathTo or FindInode has changed %#v", c.p)
		}
	}
}

func TestNamesOfPathsAreLeftAsTheyAre(t *testing.T) {
	lists := [][]string{{}, {""}, {"a"}, {"a", "b", "c"}, {"A", "/", ""}}
	for _, list := range lists {
		given, whole := amongOthers(list, "none")
		before := slices.Clone(whole)
		path := impl.JoinPath(given)
		checkJoinPath(t, given, "/"+strings.Join(list, "/"))
		if !slices.Equal(whole, before) {
			t.Errorf("JoinPath(%q) has changed its names", list)
		}
		overwrite(given, "other")
		if path != "/"+strings.Join(list, "/") {
			t.Errorf("JoinPath(%q): got %q", list, path)
		}
	}
	for _, c := range knownPaths {
		one, _ := impl.SplitPath(c.path)
		other, _ := impl.SplitPath(c.path)
		overwrite(other, "other")
		if !slices.Equal(one, c.names) {
			t.Errorf("two results of SplitPath(%q) share memory", c.path)
		}
		checkValidPath(t, c.path, c.names)
	}
}

func TestTextsOfPathsAreNew(t *testing.T) {
	for _, c := range knownPaths {
		// A path of its own, because the ones of the table lie in the program.
		path := strings.Clone(c.path)
		names, _ := impl.SplitPath(path)
		again, _ := impl.SplitPath(path)
		checkTextsNew(t, "SplitPath", names, append(again, path))
		checkTextsNew(t, "JoinPath", []string{impl.JoinPath(names)}, append(again, append(names, path)...))
		checkTextsNew(t, "ParentOf", []string{impl.ParentOf(path)}, []string{path})
		checkTextsNew(t, "LastOf", []string{impl.LastOf(path)}, []string{path})
	}
	for _, name := range append(badNames(), "a", "abcdefg") {
		name = strings.Clone(name)
		checkTextsNew(t, "JoinPath of one name", []string{impl.JoinPath([]string{name})}, []string{name})
	}
	for _, c := range partsWithNames(2, sampleGeos()) {
		for i := range c.p.Inodes {
			checkTextsNew(t, "PathTo", []string{impl.PathTo(c.p, i)}, partTexts(c.p))
		}
	}
}
