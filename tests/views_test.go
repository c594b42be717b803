package tests

import (
	"math/rand"
	"slices"
	"strconv"
	"strings"
	"testing"

	"loop.example/g00969/impl"
)

// A view together with a layout it is for.
type storedView struct {
	g impl.Geo
	v impl.View
}

// A place is the index that an item had, or -1 for the one that is put, and the Path that it has now.
type place struct {
	index int
	path  string
}

// knownViews are valid ones for their layouts, written out with the children of each path that has any, and with the pages.
var knownViews = []struct {
	g     impl.Geo
	items []impl.Item
	kids  map[string][]string
	pages int
}{
	{leastGeo, nil, map[string][]string{}, 0},
	{leastGeo, []impl.Item{dirItem("/a")}, map[string][]string{"/": {"a"}}, 0},
	{leastGeo, []impl.Item{fileItem("/0", "")}, map[string][]string{"/": {"0"}}, 0},
	{leastGeo, []impl.Item{fileItem("/abcdefg", strings.Repeat("x", 32))}, map[string][]string{"/": {"abcdefg"}}, 1},
	{middleGeo, []impl.Item{dirItem("/a"), fileItem("/a/b", "xyz")}, map[string][]string{"/": {"a"}, "/a": {"b"}}, 1},
	{middleGeo, []impl.Item{dirItem("/a"), dirItem("/a/b"), fileItem("/a/b/c", "\x00")}, map[string][]string{"/": {"a"}, "/a": {"b"}, "/a/b": {"c"}}, 1},
	{middleGeo, []impl.Item{fileItem("/a", strings.Repeat("a", 33)), dirItem("/a0"), fileItem("/a0/a", strings.Repeat("b", 32))}, map[string][]string{"/": {"a", "a0"}, "/a0": {"a"}}, 3},
	{greatestGeo, []impl.Item{dirItem("/a"), fileItem("/a/z", "1"), fileItem("/a0", "22"), dirItem("/ab"), fileItem("/ab/z", strings.Repeat("3", 128))}, map[string][]string{"/": {"a", "a0", "ab"}, "/a": {"z"}, "/ab": {"z"}}, 6},
	{greatestGeo, []impl.Item{dirItem("/a"), dirItem("/a/a"), dirItem("/a/a/a"), dirItem("/a/a/a/a"), dirItem("/a/a/a/a/a")}, map[string][]string{"/": {"a"}, "/a": {"a"}, "/a/a": {"a"}, "/a/a/a": {"a"}, "/a/a/a/a": {"a"}}, 0},
	{greatestGeo, []impl.Item{fileItem("/0", strings.Repeat("p", 128)), fileItem("/1", strings.Repeat("q", 97)), fileItem("/2", ""), dirItem("/3"), fileItem("/z", "")}, map[string][]string{"/": {"0", "1", "2", "3", "z"}}, 8},
	{greatestGeo, []impl.Item{dirItem("/docs"), fileItem("/docs/0", ""), fileItem("/docs/a", strings.Repeat("\xff", 31)), fileItem("/docs/b", strings.Repeat("\x00", 64)), dirItem("/docs/zz")}, map[string][]string{"/": {"docs"}, "/docs": {"0", "a", "b", "zz"}}, 3},
}

func dirItem(path string) impl.Item { return impl.Item{Path: path, Dir: true} }

func fileItem(path string, text string) impl.Item { return impl.Item{Path: path, Text: text} }

func viewOf(items ...impl.Item) impl.View { return impl.View{Items: items} }

func viewCopy(v impl.View) impl.View { return viewOf(slices.Clone(v.Items)...) }

// markedView has an item of each Path, whose other fields differ from those of all others.
func markedView(paths ...string) impl.View {
	v := impl.View{}
	for i, path := range paths {
		v.Items = append(v.Items, impl.Item{Path: path, Dir: i%3 == 1, Text: "item " + strconv.Itoa(i)})
	}
	return v
}

// placedView has the items of v, or x, at the given places.
func placedView(v impl.View, x impl.Item, places []place) impl.View {
	placed := impl.View{}
	for _, at := range places {
		y := x
		if at.index >= 0 {
			y = v.Items[at.index]
		}
		y.Path = at.path
		placed.Items = append(placed.Items, y)
	}
	return placed
}

// parentAndLast go by the bytes of a path and are "" for what has no names.
func parentAndLast(path string) (string, string) {
	if path == "/" || writtenCode(path) != 0 {
		return "", ""
	}
	end := strings.LastIndexByte(path, '/')
	return path[:max(end, 1)], path[end+1:]
}

func kidsIn(v impl.View, folder string) []string {
	kids := []string{}
	for _, x := range v.Items {
		if parent, last := parentAndLast(x.Path); last != "" && parent == folder {
			kids = append(kids, last)
		}
	}
	return kids
}

func pagesOf(v impl.View) int {
	pages := 0
	for _, x := range v.Items {
		for left := len(x.Text); left > 0 && !x.Dir; left -= 32 {
			pages++
		}
	}
	return pages
}

func firstWith(v impl.View, path string) int {
	return slices.IndexFunc(v.Items, func(x impl.Item) bool { return x.Path == path })
}

// viewFaults are the requirements of the specification that a view does not satisfy.
func viewFaults(g impl.Geo, v impl.View) []string {
	faults := []string{}
	fault := func(is bool, name string) {
		if is {
			faults = append(faults, name)
		}
	}
	fault(!slices.Contains(validGeos(), g), "layout")
	fault(len(v.Items) >= g.Inodes, "number of items")
	folders := []string{"/"}
	for _, x := range v.Items {
		if x.Dir {
			folders = append(folders, x.Path)
		}
	}
	for i, x := range v.Items {
		fault(i > 0 && strings.Compare(v.Items[i-1].Path, x.Path) >= 0, "order")
		fault(writtenCode(x.Path) != 0, "path")
		fault(x.Path == "/", "root")
		parent, last := parentAndLast(x.Path)
		fault(last != "" && !slices.Contains(folders, parent), "parent")
		fault(x.Dir && x.Text != "", "text of a directory")
		fault(!x.Dir && len(x.Text) > 128, "length of a file")
	}
	for _, folder := range folders {
		fault(len(kidsIn(v, folder)) > 6, "number of children")
	}
	fault(pagesOf(v) > g.Quota, "quota")
	slices.Sort(faults)
	return slices.Compact(faults)
}

// itemsWithout and the models below take the items one by one, with no regard for how few there are.
func itemsWithout(v impl.View, path string) impl.View {
	left := impl.View{}
	for _, x := range v.Items {
		if x.Path != path {
			left.Items = append(left.Items, x)
		}
	}
	return left
}

func itemsWith(v impl.View, x impl.Item) impl.View {
	put, done := impl.View{}, false
	for _, y := range itemsWithout(v, x.Path).Items {
		if !done && strings.Compare(y.Path, x.Path) >= 0 {
			put.Items, done = append(put.Items, x), true
		}
		put.Items = append(put.Items, y)
	}
	if !done {
		put.Items = append(put.Items, x)
	}
	return put
}

// isBelow goes by the bytes of two paths.
func isBelow(path string, folder string) bool {
	isUnder := folder == "/" || strings.HasPrefix(path, folder+"/")
	return isUnder && path != folder && writtenCode(path) == 0 && writtenCode(folder) == 0
}

// itemsMoved inserts each item behind all those that are not greater.
func itemsMoved(v impl.View, from string, to string) impl.View {
	moved := impl.View{}
	for _, x := range v.Items {
		if x.Path == from || isBelow(x.Path, from) {
			x.Path = to + strings.TrimPrefix(x.Path, from)
		}
		at := len(moved.Items)
		for at > 0 && strings.Compare(moved.Items[at-1].Path, x.Path) > 0 {
			at--
		}
		moved.Items = slices.Insert(moved.Items, at, x)
	}
	return moved
}

func equalViews(a impl.View, b impl.View) bool {
	if len(a.Items) != len(b.Items) {
		return false
	}
	for i, x := range a.Items {
		y := b.Items[i]
		if x.Path != y.Path || x.Dir != y.Dir || x.Text != y.Text {
			return false
		}
	}
	return true
}

func checkItemAt(t *testing.T, v impl.View, path string, want int) {
	t.Helper()
	if got := impl.ItemAt(v, path); got != want {
		t.Errorf("ItemAt(%#v, %.200q): got %d, want %d", v, path, got, want)
	}
}

func checkKidsOf(t *testing.T, v impl.View, folder string, want ...string) {
	t.Helper()
	if got := impl.KidsOf(v, folder); !slices.Equal(got, want) {
		t.Errorf("KidsOf(%#v, %.200q): got %q, want %q", v, folder, got, want)
	}
}

func checkPagesIn(t *testing.T, v impl.View, want int) {
	t.Helper()
	if got := impl.PagesIn(v); got != want {
		t.Errorf("PagesIn(%#v): got %d, want %d", v, got, want)
	}
}

func checkViewOk(t *testing.T, g impl.Geo, v impl.View, want bool) {
	t.Helper()
	if got := impl.ViewOk(g, v); got != want {
		t.Errorf("ViewOk(%+v, %#v): got %v, want %v", g, v, got, want)
	}
}

// checkView wants a result to be the given view, of a given call.
func checkView(t *testing.T, got impl.View, want impl.View, call string, v impl.View, arguments ...any) {
	t.Helper()
	if !equalViews(got, want) {
		t.Errorf("%s of %#v with %#v: got %#v, want %#v", call, v, arguments, got, want)
	}
}

func checkPutItem(t *testing.T, v impl.View, x impl.Item, want impl.View) {
	t.Helper()
	got := impl.PutItem(v, x)
	checkView(t, got, want, "PutItem", v, x)
	checkOthersKept(t, "PutItem", v, got, x.Path)
}

func checkDropItem(t *testing.T, v impl.View, path string, want impl.View) {
	t.Helper()
	got := impl.DropItem(v, path)
	checkView(t, got, want, "DropItem", v, path)
	checkOthersKept(t, "DropItem", v, got, path)
}

func checkMovedItems(t *testing.T, v impl.View, from string, to string, want impl.View) {
	t.Helper()
	checkView(t, impl.MovedItems(v, from, to), want, "MovedItems", v, from, to)
}

func checkSameView(t *testing.T, a impl.View, b impl.View, want bool) {
	t.Helper()
	if got := impl.SameView(a, b); got != want {
		t.Errorf("SameView(%#v, %#v): got %v, want %v", a, b, got, want)
	}
	if got := impl.SameView(b, a); got != want {
		t.Errorf("SameView(%#v, %#v): got %v, want %v", b, a, got, want)
	}
}

// checkOthersKept wants the items with other Paths to be as they were and in the order in which they were.
func checkOthersKept(t *testing.T, call string, before impl.View, after impl.View, path string) {
	t.Helper()
	if a, b := itemsWithout(before, path), itemsWithout(after, path); !equalViews(a, b) {
		t.Errorf("%s with the Path %q: the others were %#v and are %#v", call, path, a, b)
	}
}

// checkQuestions asks all that can be asked of a view, for each of the paths.
func checkQuestions(t *testing.T, v impl.View, paths []string) {
	t.Helper()
	for _, path := range paths {
		checkItemAt(t, v, path, firstWith(v, path))
		checkKidsOf(t, v, path, kidsIn(v, path)...)
	}
	checkPagesIn(t, v, pagesOf(v))
	checkSameView(t, v, viewCopy(v), true)
}

// checkUpdates updates a view in all ways, for each two of the paths.
func checkUpdates(t *testing.T, v impl.View, paths []string) {
	t.Helper()
	for i, path := range paths {
		x := impl.Item{Path: path, Dir: i%2 == 0, Text: "new " + strconv.Itoa(i)}
		checkPutItem(t, v, x, itemsWith(v, x))
		checkDropItem(t, v, path, itemsWithout(v, path))
		for _, to := range paths {
			checkMovedItems(t, v, path, to, itemsMoved(v, path, to))
		}
	}
}

// checkViewAsRequired returns the requirements that are not satisfied.
func checkViewAsRequired(t *testing.T, g impl.Geo, v impl.View) []string {
	t.Helper()
	faults := viewFaults(g, v)
	checkViewOk(t, g, v, len(faults) == 0)
	return faults
}

// checkOnlyFault wants a view that one requirement only makes invalid.
func checkOnlyFault(t *testing.T, g impl.Geo, v impl.View, fault string) {
	t.Helper()
	checkViewOk(t, g, v, false)
	if faults := viewFaults(g, v); !slices.Equal(faults, []string{fault}) {
		t.Errorf("the test itself finds %q in %#v, not %q", faults, v, fault)
	}
}

// viewOfPart has the names and lengths of a partition, with texts of any bytes.
func viewOfPart(source *rand.Rand, p impl.Part) impl.View {
	v := impl.View{}
	for i, n := range p.Inodes {
		path := impl.PathTo(p, i)
		switch {
		case i == 0 || path == "":
		case n.Kind == impl.InDir:
			v.Items = append(v.Items, dirItem(path))
		default:
			v.Items = append(v.Items, fileItem(path, randomText(source, n.Size)))
		}
	}
	slices.SortFunc(v.Items, func(a, b impl.Item) int { return strings.Compare(a.Path, b.Path) })
	return v
}

// validViews are the known ones and those of valid partitions.
func validViews(more int, geos []impl.Geo) []storedView {
	views := []storedView{}
	for _, c := range knownViews {
		views = append(views, storedView{c.g, viewOf(c.items...)})
	}
	source := rand.New(rand.NewSource(71))
	for _, c := range partsWithNames(more, geos) {
		views = append(views, storedView{c.g, viewOfPart(source, c.p)})
	}
	return views
}

// pathsOf are the Paths of the items.
func pathsOf(v impl.View) []string {
	paths := []string{}
	for _, x := range v.Items {
		paths = append(paths, x.Path)
	}
	return paths
}

// longText has as many bytes as its number says, of which no two next to one another are equal.
func longText(n int) string {
	text := make([]byte, n)
	for i := range text {
		text[i] = byte(i*7 + n)
	}
	return string(text)
}

func TestKnownViews(t *testing.T) {
	for _, c := range knownViews {
		v := viewOf(c.items...)
		checkViewOk(t, c.g, v, true)
		checkPagesIn(t, v, c.pages)
		checkKidsOf(t, v, "/", c.kids["/"]...)
		for i, x := range c.items {
			checkItemAt(t, v, x.Path, i)
			checkKidsOf(t, v, x.Path, c.kids[x.Path]...)
			checkPutItem(t, v, x, v)
			checkMovedItems(t, v, x.Path, x.Path, v)
		}
		checkQuestions(t, v, pathsNear(pathsOf(v)))
		if faults := viewFaults(c.g, v); len(faults) > 0 {
			t.Errorf("the test itself finds %q in %#v", faults, v)
		}
	}
}

func TestItemAtEachIndex(t *testing.T) {
	v := markedView("/a", "/a/b", "/a0", "/b", "/c")
	for i, path := range []string{"/a", "/a/b", "/a0", "/b", "/c"} {
		checkItemAt(t, v, path, i)
	}
	for _, path := range []string{"/", "", "/d", "/a/", "//a", "a", "/a/b/c", "/A", "/a\x00", "/a/b0", "/a00", "/abcdefgh", "item 0", strings.Repeat("/a", 31)} {
		checkItemAt(t, v, path, -1)
	}
}

func TestItemAtOfSeveralItemsWithAPath(t *testing.T) {
	v := markedView("/b", "/a", "/b", "/a", "/c", "/a")
	for path, want := range map[string]int{"/a": 1, "/b": 0, "/c": 4, "/d": -1, "": -1} {
		checkItemAt(t, v, path, want)
	}
	v = viewOf(fileItem("/a", "1"), dirItem("/a"), fileItem("/a", "1"))
	checkItemAt(t, v, "/a", 0)
	many := viewOf(append(slices.Repeat([]impl.Item{fileItem("/a", "x")}, 1000), fileItem("/b", ""), fileItem("/b", ""))...)
	checkItemAt(t, many, "/a", 0)
	checkItemAt(t, many, "/b", 1000)
	checkItemAt(t, many, "/c", -1)
}

func TestQuestionsOfAnEmptyView(t *testing.T) {
	for _, v := range []impl.View{{}, {Items: nil}, {Items: []impl.Item{}}, {Items: make([]impl.Item, 0, 3)}, {Items: []impl.Item{fileItem("/a", "x"), dirItem("/b")}[:0]}} {
		for _, path := range []string{"/", "", "/a", "/b", "/a/b", "//", "a", "/a/", "/A"} {
			checkItemAt(t, v, path, -1)
			checkKidsOf(t, v, path)
		}
		checkPagesIn(t, v, 0)
		for _, g := range validGeos() {
			checkViewOk(t, g, v, true)
		}
		for _, g := range invalidGeos() {
			checkViewOk(t, g, v, false)
		}
	}
}

// Any text may be a Path of an item, and is found by itself only.
func TestItemAtOfInvalidPaths(t *testing.T) {
	paths := []string{"/"}
	for _, c := range invalidPaths {
		paths = append(paths, c.path)
	}
	paths = append(paths, pathsWithBothFaults...)
	v := markedView(paths...)
	for i, path := range paths {
		checkItemAt(t, v, path, i)
		checkItemAt(t, viewOf(fileItem("/a", path), dirItem("/")), path, map[bool]int{true: 1, false: -1}[path == "/"])
		checkItemAt(t, v, path+"\x00\x00", -1)
	}
}

func TestKidsOfKnownViews(t *testing.T) {
	v := viewOf(dirItem("/a"), dirItem("/a/b"), fileItem("/a/b/c", "x"), fileItem("/a/d", "y"), fileItem("/a0", ""), dirItem("/ab"), dirItem("/ab/b"), dirItem("/z"))
	for folder, kids := range map[string][]string{
		"/": {"a", "a0", "ab", "z"}, "/a": {"b", "d"}, "/a/b": {"c"}, "/a/b/c": nil, "/a/d": nil, "/a0": nil, "/ab": {"b"}, "/ab/b": nil, "/z": nil,
		"": nil, "/b": nil, "/a/c": nil, "a": nil, "/a/": nil, "//": nil, "//a": nil, "/a//b": nil, "/abcdefgh": nil, "/a/b/": nil, "/A": nil, "item": nil,
	} {
		checkKidsOf(t, v, folder, kids...)
	}
}

// Neither the order nor the repetition of items matters, nor does whether there is an item for the folder, nor whether it is a directory.
func TestKidsOfItemsInAnyOrder(t *testing.T) {
	v := markedView("/c", "/b/z", "/a", "/b/a", "/c", "/b/z", "/b/a/x", "/b/m", "/", "/a")
	checkKidsOf(t, v, "/", "c", "a", "c", "a")
	checkKidsOf(t, v, "/b", "z", "a", "z", "m")
	checkKidsOf(t, v, "/b/a", "x")
	checkKidsOf(t, v, "/a")
	checkKidsOf(t, v, "")
	v = viewOf(fileItem("/f", "x"), fileItem("/f/b", "y"), fileItem("/f/a", "z"))
	checkKidsOf(t, v, "/f", "b", "a")
	checkKidsOf(t, v, "/", "f")
	many := impl.View{}
	names := []string{}
	for i := range 300 {
		name := "n" + strconv.Itoa(i*7%300)
		names = append(names, name)
		many.Items = append(many.Items, fileItem("/d/"+name, ""), fileItem("/"+name+"/d", ""))
	}
	checkKidsOf(t, many, "/d", names...)
	checkKidsOf(t, many, "/n7", "d")
	checkKidsOf(t, many, "/")
}

// An item with an invalid Path is a child of nothing, not even of what looks like the folder it is in.
func TestKidsOfItemsWithInvalidPaths(t *testing.T) {
	paths := []string{""}
	for _, c := range invalidPaths {
		paths = append(paths, c.path)
	}
	paths = append(paths, pathsWithBothFaults...)
	folders := []string{"/", "/a", "/a/b", "/abcdefg", "", "//", "a", "/A", "/abcdefgh", "/a/"}
	for _, path := range paths {
		folders = append(folders, path[:max(strings.LastIndexByte(path, '/'), 0)])
	}
	v := markedView(paths...)
	among := markedView(append(append([]string{"/a", "/a/b"}, paths...), "/", "/a/c", "/b")...)
	for _, folder := range folders {
		checkKidsOf(t, v, folder)
		if folder != "/" && folder != "/a" {
			checkKidsOf(t, among, folder)
		}
	}
	checkKidsOf(t, among, "/", "a", "b")
	checkKidsOf(t, among, "/a", "b", "c")
}

// At the greatest length of a path there is a parent, above it there is none.
func TestKidsOfLongPaths(t *testing.T) {
	folder := strings.Repeat("/a", 29)
	v := markedView(folder, folder+"/b", folder+"/bc", folder+"/c", folder+"/c/d")
	checkKidsOf(t, v, folder, "b", "c")
	checkKidsOf(t, v, folder+"/c")
	checkKidsOf(t, v, strings.Repeat("/a", 28), "a")
	v = markedView("/a/abcdefg", "/a/abcdefgh", "/abcdefgh/a", "/abcdefg/a")
	checkKidsOf(t, v, "/a", "abcdefg")
	checkKidsOf(t, v, "/abcdefg", "a")
	checkKidsOf(t, v, "/abcdefgh")
}

func TestPagesInFilesOfEachLength(t *testing.T) {
	checkPagesIn(t, impl.View{}, 0)
	for length, want := range map[int]int{0: 0, 1: 1, 2: 1, 31: 1, 32: 1, 33: 2, 63: 2, 64: 2, 65: 3, 96: 3, 97: 4, 127: 4, 128: 4, 129: 5, 160: 5, 161: 6, 320000: 10000, 320001: 10001} {
		checkPagesIn(t, viewOf(fileItem("/a", longText(length))), want)
		checkPagesIn(t, viewOf(impl.Item{Path: "/a", Dir: true, Text: longText(length)}), 0)
		checkPagesIn(t, viewOf(fileItem("/a", "x"), fileItem("/b", longText(length)), impl.Item{Path: "/c", Dir: true, Text: longText(length)}, fileItem("/d", longText(33))), want+3)
	}
	for length := range 300 {
		v := viewOf(fileItem("/a", longText(length)))
		checkPagesIn(t, v, pagesOf(v))
		v.Items = append(v.Items, v.Items[0], v.Items[0])
		checkPagesIn(t, v, pagesOf(v))
	}
}

// Pages of different files are not put together, and neither Path nor order matters.
func TestPagesInSeveralFiles(t *testing.T) {
	checkPagesIn(t, viewOf(fileItem("/a", "x"), fileItem("/b", "y"), fileItem("/c", "z")), 3)
	checkPagesIn(t, viewOf(fileItem("/a", longText(33)), fileItem("/b", longText(31)), fileItem("/c", "")), 3)
	checkPagesIn(t, viewOf(fileItem("/c", longText(128)), fileItem("/b", longText(128)), fileItem("/a", longText(128))), 12)
	checkPagesIn(t, viewOf(fileItem("", "x"), fileItem("/", longText(40)), fileItem("//", longText(90)), fileItem("", "x")), 7)
	checkPagesIn(t, viewOf(dirItem("/a"), dirItem("/b"), fileItem("/b/c", "")), 0)
	checkPagesIn(t, viewOf(slices.Repeat([]impl.Item{fileItem("/a", longText(33)), dirItem("/b")}, 500)...), 1000)
}

func TestViewOkOfValidViews(t *testing.T) {
	full := 0
	for _, c := range validViews(20, sampleGeos()) {
		if faults := checkViewAsRequired(t, c.g, c.v); len(faults) > 0 {
			t.Fatalf("the test itself finds %q in %#v for %+v", faults, c.v, c.g)
		}
		if impl.PagesIn(c.v) == c.g.Quota && len(c.v.Items) == c.g.Inodes-1 {
			full++
		}
		checkQuestions(t, c.v, append(pathsOf(c.v), "/", "", "/none"))
	}
	for _, c := range validViews(1, validGeos()) {
		checkViewOk(t, c.g, c.v, true)
	}
	if full < 5 {
		t.Errorf("only %d views use all items and pages", full)
	}
}

func TestViewOkOfInvalidLayouts(t *testing.T) {
	for _, g := range invalidGeos() {
		for _, c := range knownViews {
			checkViewOk(t, g, viewOf(c.items...), false)
		}
	}
	v := viewOf(dirItem("/a"), fileItem("/a/b", "x"))
	for _, g := range []impl.Geo{{Tenants: 0, Pages: 8, Inodes: 4, Quota: 3}, {Tenants: 4, Pages: 8, Inodes: 4, Quota: 3}, {Tenants: 2, Pages: 13, Inodes: 4, Quota: 3}, {Tenants: 2, Pages: 4, Inodes: 4, Quota: 1}, {Tenants: 2, Pages: 8, Inodes: 7, Quota: 3}, {Tenants: 2, Pages: 8, Inodes: 4, Quota: 5}} {
		checkOnlyFault(t, g, v, "layout")
	}
	checkOnlyFault(t, impl.Geo{Tenants: 2, Pages: 8, Inodes: 4, Quota: 0}, viewOf(dirItem("/a"), fileItem("/a/b", "")), "layout")
	checkOnlyFault(t, impl.Geo{Tenants: 2, Pages: 8, Inodes: 1, Quota: 3}, impl.View{}, "layout")
}

// There are fewer items than inodes, of which inode 0 is for the root.
func TestViewOkForEachNumberOfItems(t *testing.T) {
	for _, g := range validGeos() {
		for count := range 9 {
			files, folders, chain := impl.View{}, impl.View{}, impl.View{}
			for i := range count {
				files.Items = append(files.Items, fileItem("/f"+strconv.Itoa(i), ""))
				folders.Items = append(folders.Items, dirItem("/d"+strconv.Itoa(i)))
				chain.Items = append(chain.Items, dirItem(strings.Repeat("/a", i+1)))
			}
			for _, v := range []impl.View{files, folders, chain} {
				checkViewOk(t, g, v, count < g.Inodes)
				if count == g.Inodes && count <= 6 {
					checkOnlyFault(t, g, v, "number of items")
				}
			}
		}
	}
}

// No layout has as many items as a directory has too many children, so that the latter is never the only fault.
func TestViewOkForEachNumberOfChildren(t *testing.T) {
	for count := range 9 {
		root, other := impl.View{}, viewOf(dirItem("/d"))
		for i := range count {
			root.Items = append(root.Items, fileItem("/f"+strconv.Itoa(i), ""))
			other.Items = append(other.Items, fileItem("/d/"+strconv.Itoa(i), ""))
		}
		checkViewOk(t, greatestGeo, root, count <= 5)
		checkViewOk(t, greatestGeo, other, count <= 4)
		wantFault := count > 6
		for _, v := range []impl.View{root, other} {
			if slices.Contains(viewFaults(greatestGeo, v), "number of children") != wantFault {
				t.Errorf("the test itself finds %q in %#v", viewFaults(greatestGeo, v), v)
			}
		}
	}
}

func TestViewOkWithAPathTwice(t *testing.T) {
	for _, items := range [][]impl.Item{
		{dirItem("/a"), dirItem("/a")}, {fileItem("/a", ""), fileItem("/a", "")}, {fileItem("/a", "x"), fileItem("/a", "y")}, {dirItem("/a"), fileItem("/a", "")}, {fileItem("/a", ""), dirItem("/a")},
		{dirItem("/a"), dirItem("/a"), fileItem("/b", "")}, {fileItem("/0", ""), dirItem("/a"), dirItem("/a")}, {dirItem("/a"), fileItem("/a/b", ""), fileItem("/a/b", "")}, {dirItem("/a"), fileItem("/a/b", ""), dirItem("/a")},
	} {
		checkOnlyFault(t, middleGeo, viewOf(items...), "order")
	}
	checkViewOk(t, middleGeo, viewOf(dirItem("/a"), fileItem("/a/a", ""), fileItem("/aa", "")), true)
}

// Bytes decide the order: '/' sorts before digits, digits before letters, and a path before those that begin with it.
func TestViewOkForEachOrderOfItems(t *testing.T) {
	items := []impl.Item{dirItem("/a"), fileItem("/a/z", "1"), fileItem("/a0", "2"), fileItem("/aa", "3"), fileItem("/b", "4")}
	checkViewOk(t, greatestGeo, viewOf(items...), true)
	valid := 0
	everyList([]int{0, 1, 2, 3, 4}, 5, func(list []int) {
		v := impl.View{}
		for _, i := range list {
			v.Items = append(v.Items, items[i])
		}
		want := true
		for k := range len(list) - 1 {
			want = want && list[k] < list[k+1]
		}
		// Item 1 is in item 0.
		want = want && (!slices.Contains(list, 1) || slices.Contains(list, 0))
		checkViewOk(t, greatestGeo, v, want)
		if want {
			valid++
		}
	})
	if valid != 24 {
		t.Errorf("%d of the lists are valid, not 24", valid)
	}
	for i := range 4 {
		swapped := slices.Clone(items)
		swapped[i], swapped[i+1] = swapped[i+1], swapped[i]
		checkOnlyFault(t, greatestGeo, viewOf(swapped...), "order")
	}
}

func TestViewOkWithAnInvalidPath(t *testing.T) {
	paths := slices.Clone(pathsWithBothFaults)
	for _, c := range invalidPaths {
		paths = append(paths, c.path)
	}
	for _, path := range paths {
		for _, x := range []impl.Item{dirItem(path), fileItem(path, ""), fileItem(path, "x")} {
			checkOnlyFault(t, middleGeo, viewOf(x), "path")
			v := impl.PutItem(viewOf(dirItem("/a"), dirItem("/a/b")), x)
			checkOnlyFault(t, middleGeo, v, "path")
		}
	}
	// What would be the folders of an invalid path may all be there.
	for _, items := range [][]impl.Item{
		{dirItem(""), dirItem("/a")}, {dirItem("/a"), dirItem("/a/")}, {dirItem("/a"), fileItem("/a//b", "")}, {dirItem("/a"), fileItem("/a/B", "")}, {dirItem("//"), dirItem("/a")}, {dirItem("/abcdefg"), dirItem("/abcdefgh")}, {dirItem("a")}, {dirItem("")}, {fileItem("", "")},
	} {
		checkOnlyFault(t, middleGeo, viewOf(items...), "path")
	}
	if faults := viewFaults(middleGeo, viewOf(dirItem("/abcdefgh"), fileItem("/abcdefgh/b", ""))); !slices.Equal(faults, []string{"path"}) {
		t.Errorf("the test itself finds %q", faults)
	}
	checkViewOk(t, middleGeo, viewOf(dirItem("/abcdefgh"), fileItem("/abcdefgh/b", "")), false)
	checkViewOk(t, middleGeo, viewOf(dirItem("/abcdefg"), fileItem("/abcdefg/b", "")), true)
}

func TestViewOkWithTheRoot(t *testing.T) {
	for _, x := range []impl.Item{dirItem("/"), fileItem("/", ""), fileItem("/", "x")} {
		checkOnlyFault(t, middleGeo, viewOf(x), "root")
		checkOnlyFault(t, middleGeo, viewOf(x, dirItem("/a"), fileItem("/a/b", "x")), "root")
	}
	// There is no other directory that the item would have to be in.
	checkOnlyFault(t, greatestGeo, viewOf(dirItem("/"), fileItem("/a", "")), "root")
	checkViewOk(t, greatestGeo, viewOf(dirItem(""), dirItem("/")), false)
}

func TestViewOkWithoutAParent(t *testing.T) {
	for _, items := range [][]impl.Item{
		{fileItem("/a/b", "")}, {dirItem("/a/b")}, {dirItem("/a"), fileItem("/a/b/c", "")}, {dirItem("/a"), fileItem("/ab/c", "")}, {dirItem("/0"), dirItem("/1"), fileItem("/2/b", "")}, {dirItem("/a"), fileItem("/a0/c", "")}, {dirItem("/a"), dirItem("/b/a")},
		{dirItem("/a"), dirItem("/a/b"), dirItem("/b/a")}, {dirItem("/b"), dirItem("/b/a"), fileItem("/b/a/c/d", "")}, {dirItem("/b"), fileItem("/c/a", "")}, {dirItem("/b"), fileItem("/bb/b", "")}, {fileItem("/a/b/c/d/e", "")}, {dirItem("/a"), dirItem("/a/a"), dirItem("/a/a/a/a")},
		{fileItem("/a", ""), fileItem("/a/b", "")}, {fileItem("/a", "x"), dirItem("/a/b")}, {dirItem("/a"), fileItem("/a/b", ""), fileItem("/a/b/c", "")}, {fileItem("/a", ""), fileItem("/a/b", ""), dirItem("/b")},
	} {
		checkOnlyFault(t, greatestGeo, viewOf(items...), "parent")
	}
	checkViewOk(t, greatestGeo, viewOf(dirItem("/a"), dirItem("/a/b"), fileItem("/a/b/c", "")), true)
	// The parent comes behind its child here.
	checkOnlyFault(t, greatestGeo, viewOf(fileItem("/a/b", ""), dirItem("/a")), "order")
}

func TestViewOkWithTextOfADirectory(t *testing.T) {
	for _, text := range []string{"x", "\x00", longText(32), longText(128), longText(129), longText(10000)} {
		for _, v := range []impl.View{
			viewOf(impl.Item{Path: "/a", Dir: true, Text: text}), viewOf(dirItem("/a"), impl.Item{Path: "/a/b", Dir: true, Text: text}), viewOf(impl.Item{Path: "/a", Dir: true, Text: text}, fileItem("/a/b", "x"), dirItem("/b")),
		} {
			checkOnlyFault(t, middleGeo, v, "text of a directory")
		}
	}
}

// The layout allows eight pages, which is more than the greatest file has.
func TestViewOkForEachLengthOfAFile(t *testing.T) {
	for length := range 300 {
		text := longText(length)
		checkViewOk(t, greatestGeo, viewOf(fileItem("/a", text)), length <= 128)
		checkViewOk(t, greatestGeo, viewOf(dirItem("/a"), fileItem("/a/b", "x"), fileItem("/a/c", text)), length <= 128)
		if length > 128 && length <= 224 {
			checkOnlyFault(t, greatestGeo, viewOf(fileItem("/a", text)), "length of a file")
			checkOnlyFault(t, greatestGeo, viewOf(dirItem("/a"), fileItem("/a/b", text), fileItem("/b", "x")), "length of a file")
		}
	}
}

func TestViewOkForEachNumberOfPages(t *testing.T) {
	for _, g := range validGeos() {
		for length := range 129 {
			pages := (length + 31) / 32
			checkViewOk(t, g, viewOf(fileItem("/a", longText(length))), pages <= g.Quota)
			if pages == g.Quota+1 {
				checkOnlyFault(t, g, viewOf(fileItem("/a", longText(length))), "quota")
			}
		}
	}
	for quota := 1; quota <= 8; quota++ {
		g := impl.Geo{Tenants: 2, Pages: 12, Inodes: 6, Quota: quota}
		everyList([]int{0, 1, 32, 33, 128}, 4, func(list []int) {
			v, pages := viewOf(dirItem("/d")), 0
			for i, length := range list {
				v.Items = append(v.Items, fileItem("/d/"+strconv.Itoa(i), longText(length)))
				pages += map[int]int{0: 0, 1: 1, 32: 1, 33: 2, 128: 4}[length]
			}
			checkViewOk(t, g, v, pages <= quota)
			if pages > quota {
				checkOnlyFault(t, g, v, "quota")
			}
		})
	}
}

// Every list of up to four items out of eleven, for layouts with many and few items and pages.
func TestViewOkForEveryChoiceOfItems(t *testing.T) {
	items := []impl.Item{
		dirItem("/a"), fileItem("/a", "x"), dirItem("/a/b"), fileItem("/a/b/c", longText(33)), fileItem("/a0", longText(128)), dirItem("/b"), fileItem("/b/a", longText(129)), impl.Item{Path: "/c", Dir: true, Text: "x"}, dirItem("/"), fileItem("/a/", ""), dirItem(""),
	}
	found := map[string]int{}
	everyList(items, 4, func(list []impl.Item) {
		for _, g := range []impl.Geo{middleGeo, {Tenants: 1, Pages: 12, Inodes: 6, Quota: 6}} {
			faults := checkViewAsRequired(t, g, viewOf(list...))
			if len(faults) < 2 {
				found[strings.Join(faults, "")]++
			}
		}
	})
	for _, fault := range []string{"", "number of items", "order", "path", "root", "parent", "text of a directory", "length of a file", "quota"} {
		if found[fault] == 0 {
			t.Errorf("the numbers of views with one fault are %v", found)
		}
	}
}

func TestPutItemAtKnownPlaces(t *testing.T) {
	for _, c := range []struct {
		paths []string
		put   string
		want  []place
	}{
		{nil, "/a", []place{{-1, "/a"}}},
		{[]string{"/b", "/c"}, "/a", []place{{-1, "/a"}, {0, "/b"}, {1, "/c"}}},
		{[]string{"/a", "/c"}, "/b", []place{{0, "/a"}, {-1, "/b"}, {1, "/c"}}},
		{[]string{"/a", "/b"}, "/c", []place{{0, "/a"}, {1, "/b"}, {-1, "/c"}}},
		{[]string{"/a", "/b", "/c"}, "/a", []place{{-1, "/a"}, {1, "/b"}, {2, "/c"}}},
		{[]string{"/a", "/b", "/c"}, "/b", []place{{0, "/a"}, {-1, "/b"}, {2, "/c"}}},
		{[]string{"/a", "/b", "/c"}, "/c", []place{{0, "/a"}, {1, "/b"}, {-1, "/c"}}},
		{[]string{"/a"}, "/a", []place{{-1, "/a"}}},
		{[]string{"/a", "/a/b", "/a0", "/ab"}, "/a/a", []place{{0, "/a"}, {-1, "/a/a"}, {1, "/a/b"}, {2, "/a0"}, {3, "/ab"}}},
		{[]string{"/a", "/a/b", "/a0", "/ab"}, "/a/b/c", []place{{0, "/a"}, {1, "/a/b"}, {-1, "/a/b/c"}, {2, "/a0"}, {3, "/ab"}}},
		{[]string{"/a", "/a/b", "/a0", "/ab"}, "/a/z", []place{{0, "/a"}, {1, "/a/b"}, {-1, "/a/z"}, {2, "/a0"}, {3, "/ab"}}},
		{[]string{"/a", "/a/b", "/a0", "/ab"}, "/aa", []place{{0, "/a"}, {1, "/a/b"}, {2, "/a0"}, {-1, "/aa"}, {3, "/ab"}}},
		{[]string{"/a", "/a/b", "/a0", "/ab"}, "/0", []place{{-1, "/0"}, {0, "/a"}, {1, "/a/b"}, {2, "/a0"}, {3, "/ab"}}},
		{[]string{"/a", "/a/b", "/a0", "/ab"}, "/", []place{{-1, "/"}, {0, "/a"}, {1, "/a/b"}, {2, "/a0"}, {3, "/ab"}}},
		{[]string{"/a", "/b"}, "", []place{{-1, ""}, {0, "/a"}, {1, "/b"}}},
		{[]string{"/a", "/b"}, "a", []place{{0, "/a"}, {1, "/b"}, {-1, "a"}}},
		{[]string{"/a", "/b"}, "/a/", []place{{0, "/a"}, {-1, "/a/"}, {1, "/b"}}},
		{[]string{"/a", "/b"}, "/A", []place{{-1, "/A"}, {0, "/a"}, {1, "/b"}}},
		{[]string{"/a", "/b"}, "/a\xff", []place{{0, "/a"}, {-1, "/a\xff"}, {1, "/b"}}},
		{[]string{"/a", "/b"}, "\xff", []place{{0, "/a"}, {1, "/b"}, {-1, "\xff"}}},
		{[]string{"/a", "/a"}, "/a", []place{{-1, "/a"}}},
		{[]string{"/a", "/b", "/b", "/b", "/c"}, "/b", []place{{0, "/a"}, {-1, "/b"}, {4, "/c"}}},
		{[]string{"/b", "/a", "/b", "/c", "/b"}, "/b", []place{{1, "/a"}, {-1, "/b"}, {3, "/c"}}},
		{[]string{"/c", "/b", "/a"}, "/b", []place{{-1, "/b"}, {0, "/c"}, {2, "/a"}}},
		{[]string{"/a", "/d", "/b", "/e"}, "/c", []place{{0, "/a"}, {-1, "/c"}, {1, "/d"}, {2, "/b"}, {3, "/e"}}},
		{[]string{"/c", "/b", "/a"}, "/d", []place{{0, "/c"}, {1, "/b"}, {2, "/a"}, {-1, "/d"}}},
		{[]string{"/c", "/b", "/a"}, "/0", []place{{-1, "/0"}, {0, "/c"}, {1, "/b"}, {2, "/a"}}},
		{[]string{"/b", "/b", "/a", "/a"}, "/a", []place{{-1, "/a"}, {0, "/b"}, {1, "/b"}}},
		{[]string{"/b", "/b", "/a", "/a"}, "/b", []place{{2, "/a"}, {3, "/a"}, {-1, "/b"}}},
	} {
		v := markedView(c.paths...)
		for _, x := range []impl.Item{dirItem(c.put), fileItem(c.put, ""), fileItem(c.put, "new"), fileItem(c.put, longText(500)), {Path: c.put, Dir: true, Text: "new"}} {
			checkPutItem(t, v, x, placedView(v, x, c.want))
			checkItemAt(t, impl.PutItem(v, x), c.put, slices.IndexFunc(c.want, func(p place) bool { return p.index < 0 }))
		}
	}
}

func TestDropItemsOfKnownPaths(t *testing.T) {
	for _, c := range []struct {
		paths []string
		drop  string
		left  []int
	}{
		{nil, "/a", nil}, {nil, "/", nil}, {nil, "", nil}, {[]string{"/a"}, "/a", nil}, {[]string{"/a"}, "/b", []int{0}}, {[]string{"/a"}, "/", []int{0}}, {[]string{"/a"}, "", []int{0}}, {[]string{"/a"}, "/a/", []int{0}},
		{[]string{"/a", "/b", "/c"}, "/a", []int{1, 2}}, {[]string{"/a", "/b", "/c"}, "/b", []int{0, 2}}, {[]string{"/a", "/b", "/c"}, "/c", []int{0, 1}}, {[]string{"/a", "/b", "/c"}, "/d", []int{0, 1, 2}},
		{[]string{"/a", "/a/b", "/a/b/c", "/ab"}, "/a", []int{1, 2, 3}}, {[]string{"/a", "/a/b", "/a/b/c", "/ab"}, "/a/b", []int{0, 2, 3}}, {[]string{"/a", "/a/b", "/a/b/c", "/ab"}, "/a/b/c", []int{0, 1, 3}}, {[]string{"/a", "/a/b", "/a/b/c", "/ab"}, "/ab", []int{0, 1, 2}},
		{[]string{"/a", "/a"}, "/a", nil}, {[]string{"/a", "/a", "/a", "/a"}, "/a", nil}, {[]string{"/a", "/a"}, "/b", []int{0, 1}}, {[]string{"/b", "/a", "/b", "/c", "/b"}, "/b", []int{1, 3}}, {[]string{"/c", "/a", "/b", "/a"}, "/a", []int{0, 2}}, {[]string{"/c", "/a", "/b", "/a"}, "/d", []int{0, 1, 2, 3}},
		{[]string{"", "/", "/a"}, "", []int{1, 2}}, {[]string{"", "/", "/a"}, "/", []int{0, 2}}, {[]string{"/a/", "/a", "//a", "a"}, "/a", []int{0, 2, 3}}, {[]string{"/a/", "/a", "//a", "a"}, "/a/", []int{1, 2, 3}}, {[]string{"\xff", "\x00", "\xff"}, "\xff", []int{1}},
	} {
		v, want := markedView(c.paths...), impl.View{}
		for _, i := range c.left {
			want.Items = append(want.Items, v.Items[i])
		}
		checkDropItem(t, v, c.drop, want)
		checkItemAt(t, impl.DropItem(v, c.drop), c.drop, -1)
	}
}

func TestMovedItemsOfKnownPaths(t *testing.T) {
	for _, c := range []struct {
		paths    []string
		from, to string
		want     []place
	}{
		// A file, and a directory with contents of several depths.
		{[]string{"/a", "/b", "/c"}, "/b", "/d", []place{{0, "/a"}, {2, "/c"}, {1, "/d"}}},
		{[]string{"/a", "/b", "/c"}, "/b", "/0", []place{{1, "/0"}, {0, "/a"}, {2, "/c"}}},
		{[]string{"/a", "/b", "/c"}, "/a", "/bb", []place{{1, "/b"}, {0, "/bb"}, {2, "/c"}}},
		{[]string{"/a", "/a/b", "/a/b/c", "/a/b/c/d", "/b"}, "/a", "/c", []place{{4, "/b"}, {0, "/c"}, {1, "/c/b"}, {2, "/c/b/c"}, {3, "/c/b/c/d"}}},
		{[]string{"/0", "/b", "/b/b", "/b/b/c", "/b/z"}, "/b", "/a", []place{{0, "/0"}, {1, "/a"}, {2, "/a/b"}, {3, "/a/b/c"}, {4, "/a/z"}}},
		{[]string{"/0", "/b", "/b/b", "/b/b/c", "/b/z"}, "/b/b", "/a", []place{{0, "/0"}, {2, "/a"}, {3, "/a/c"}, {1, "/b"}, {4, "/b/z"}}},
		{[]string{"/0", "/b", "/b/b", "/b/b/c", "/b/z"}, "/b/b", "/zzzzzzz", []place{{0, "/0"}, {1, "/b"}, {4, "/b/z"}, {2, "/zzzzzzz"}, {3, "/zzzzzzz/c"}}},
		// Only the beginning is replaced.
		{[]string{"/a", "/a/a", "/a/a/a"}, "/a", "/b", []place{{0, "/b"}, {1, "/b/a"}, {2, "/b/a/a"}}},
		{[]string{"/a", "/a/a", "/a/a/a"}, "/a/a", "/b", []place{{0, "/a"}, {1, "/b"}, {2, "/b/a"}}},
		{[]string{"/b", "/b/a"}, "/a", "/c", []place{{0, "/b"}, {1, "/b/a"}}},
		// Longer and shorter paths, and what only begins with the same bytes.
		{[]string{"/a", "/a/b", "/a0", "/ab", "/ab/c"}, "/a", "/abcdefg", []place{{2, "/a0"}, {3, "/ab"}, {4, "/ab/c"}, {0, "/abcdefg"}, {1, "/abcdefg/b"}}},
		{[]string{"/a", "/a/b", "/a0", "/ab", "/ab/c"}, "/ab", "/9", []place{{3, "/9"}, {4, "/9/c"}, {0, "/a"}, {1, "/a/b"}, {2, "/a0"}}},
		{[]string{"/abcdefg", "/abcdefg/h"}, "/abcdefg", "/a", []place{{0, "/a"}, {1, "/a/h"}}},
		{[]string{"/ab", "/ab/c"}, "/a", "/c", []place{{0, "/ab"}, {1, "/ab/c"}}},
		// Into a directory, out of one, from one to another.
		{[]string{"/a", "/a/b", "/b", "/b/c"}, "/b", "/a/c", []place{{0, "/a"}, {1, "/a/b"}, {2, "/a/c"}, {3, "/a/c/c"}}},
		{[]string{"/a", "/a/b", "/b", "/b/c"}, "/b/c", "/a/c", []place{{0, "/a"}, {1, "/a/b"}, {3, "/a/c"}, {2, "/b"}}},
		{[]string{"/a", "/a/b", "/b", "/b/c"}, "/b/c", "/0", []place{{3, "/0"}, {0, "/a"}, {1, "/a/b"}, {2, "/b"}}},
		{[]string{"/a", "/a/b"}, "/a", "/a/c", []place{{0, "/a/c"}, {1, "/a/c/b"}}},
		// The same path, and one that is not there: only the order may change.
		{[]string{"/a", "/a/b", "/c"}, "/a", "/a", []place{{0, "/a"}, {1, "/a/b"}, {2, "/c"}}},
		{[]string{"/a", "/a/b", "/c"}, "/b", "/d", []place{{0, "/a"}, {1, "/a/b"}, {2, "/c"}}},
		{[]string{"/c", "/a/b", "/a"}, "/b", "/d", []place{{2, "/a"}, {1, "/a/b"}, {0, "/c"}}},
		{[]string{"/c", "/a/b", "/a"}, "/c", "/c", []place{{2, "/a"}, {1, "/a/b"}, {0, "/c"}}},
		{[]string{"/c", "/b", "/c", "/a", "/b"}, "/d", "/e", []place{{3, "/a"}, {1, "/b"}, {4, "/b"}, {0, "/c"}, {2, "/c"}}},
		{nil, "/a", "/b", nil}, {nil, "", "", nil}, {nil, "/", "/a", nil},
		// The contents of a directory that is not there itself.
		{[]string{"/a/b", "/a/c", "/b"}, "/a", "/d", []place{{2, "/b"}, {0, "/d/b"}, {1, "/d/c"}}},
		// To where there are items already: the ones that came first stay first.
		{[]string{"/a", "/b"}, "/a", "/b", []place{{0, "/b"}, {1, "/b"}}},
		{[]string{"/a", "/b"}, "/b", "/a", []place{{0, "/a"}, {1, "/a"}}},
		{[]string{"/a", "/a/x", "/b", "/b/x"}, "/a", "/b", []place{{0, "/b"}, {2, "/b"}, {1, "/b/x"}, {3, "/b/x"}}},
		{[]string{"/a", "/a/x", "/b", "/b/x"}, "/b", "/a", []place{{0, "/a"}, {2, "/a"}, {1, "/a/x"}, {3, "/a/x"}}},
		{[]string{"/b", "/a", "/b", "/a", "/b"}, "/a", "/b", []place{{0, "/b"}, {1, "/b"}, {2, "/b"}, {3, "/b"}, {4, "/b"}}},
		// Repeated items.
		{[]string{"/a", "/a", "/b", "/a"}, "/a", "/c", []place{{2, "/b"}, {0, "/c"}, {1, "/c"}, {3, "/c"}}},
		{[]string{"/b", "/a/x", "/b", "/a", "/a/x"}, "/b", "/0", []place{{0, "/0"}, {2, "/0"}, {3, "/a"}, {1, "/a/x"}, {4, "/a/x"}}},
		// The root has all valid paths under it, and the slash is the beginning that is replaced.
		{[]string{"/a", "/a/b", "/c"}, "/", "/d/", []place{{0, "/d/a"}, {1, "/d/a/b"}, {2, "/d/c"}}},
		{[]string{"/a", "/a/b", "/c"}, "/", "/d", []place{{0, "/da"}, {1, "/da/b"}, {2, "/dc"}}},
		{[]string{"/", "/a", "/A", "", "/a/"}, "/", "/b", []place{{3, ""}, {2, "/A"}, {4, "/a/"}, {0, "/b"}, {1, "/ba"}}},
		{[]string{"/a", "/a/b", "/c"}, "/a", "/", []place{{0, "/"}, {1, "//b"}, {2, "/c"}}},
		{[]string{"/a", "/a/b", "/c"}, "/a", "", []place{{0, ""}, {1, "/b"}, {2, "/c"}}},
		// Nothing is under an invalid path, and no invalid path is under another one, but a Path is what it is.
		{[]string{"", "/", "/a"}, "", "/z", []place{{1, "/"}, {2, "/a"}, {0, "/z"}}},
		{[]string{"/a", "/a/", "/a/b"}, "/a/", "/z", []place{{0, "/a"}, {2, "/a/b"}, {1, "/z"}}},
		{[]string{"/A", "/A/b", "/a"}, "/A", "/z", []place{{1, "/A/b"}, {2, "/a"}, {0, "/z"}}},
		{[]string{"/a", "/a/", "/a//b", "/a/B", "/a/abcdefgh", "/a/b"}, "/a", "/0", []place{{0, "/0"}, {5, "/0/b"}, {1, "/a/"}, {2, "/a//b"}, {3, "/a/B"}, {4, "/a/abcdefgh"}}},
		{[]string{"/abcdefgh", "/abcdefgh/b"}, "/abcdefgh", "/z", []place{{1, "/abcdefgh/b"}, {0, "/z"}}},
		{[]string{"a", "a/b"}, "a", "/z", []place{{0, "/z"}, {1, "a/b"}}},
		{[]string{"/a", "/a/b", "/c"}, "/a", "\xff", []place{{2, "/c"}, {0, "\xff"}, {1, "\xff/b"}}},
		{[]string{"/a", "/a/b", "/c"}, "/a", "not a path", []place{{2, "/c"}, {0, "not a path"}, {1, "not a path/b"}}},
		{[]string{"/a", "/a/b", "/c"}, "/a/", "/d", []place{{0, "/a"}, {1, "/a/b"}, {2, "/c"}}},
		{[]string{"/a", "/a/b", "/c"}, "", "/d", []place{{0, "/a"}, {1, "/a/b"}, {2, "/c"}}},
	} {
		v := markedView(c.paths...)
		checkMovedItems(t, v, c.from, c.to, placedView(v, impl.Item{}, c.want))
		checkView(t, itemsMoved(v, c.from, c.to), placedView(v, impl.Item{}, c.want), "the test's own MovedItems", v, c.from, c.to)
	}
}

// A path of the greatest length is under others, and may become longer than any path is.
func TestMovedItemsOfLongPaths(t *testing.T) {
	folder := strings.Repeat("/a", 29)
	v := markedView(folder, folder+"/b", folder+"/bc")
	checkMovedItems(t, v, folder, "/c", placedView(v, impl.Item{}, []place{{2, folder + "/bc"}, {0, "/c"}, {1, "/c/b"}}))
	checkMovedItems(t, v, "/a", "/bcdefgh", placedView(v, impl.Item{}, []place{{2, folder + "/bc"}, {0, "/bcdefgh" + folder[2:]}, {1, "/bcdefgh" + folder[2:] + "/b"}}))
	long := strings.Repeat("/abcdefg", 1000)
	v = markedView("/a", "/a/b", long)
	checkMovedItems(t, v, "/a", long, placedView(v, impl.Item{}, []place{{0, long}, {2, long}, {1, long + "/b"}}))
	checkMovedItems(t, v, long, "/0", placedView(v, impl.Item{}, []place{{2, "/0"}, {0, "/a"}, {1, "/a/b"}}))
}

// Moving a directory within a valid view, as renaming does.
func TestMovedItemsOfADirectoryWithContents(t *testing.T) {
	before := viewOf(dirItem("/docs"), dirItem("/docs/old"), fileItem("/docs/old/a", "aaa"), fileItem("/docs/z", longText(64)), fileItem("/docsx", "x"))
	after := viewOf(dirItem("/docs"), fileItem("/docs/z", longText(64)), fileItem("/docsx", "x"), dirItem("/new"), fileItem("/new/a", "aaa"))
	checkMovedItems(t, before, "/docs/old", "/new", after)
	checkMovedItems(t, after, "/new", "/docs/old", before)
	all := viewOf(fileItem("/docsx", "x"), dirItem("/x"), dirItem("/x/old"), fileItem("/x/old/a", "aaa"), fileItem("/x/z", longText(64)))
	checkMovedItems(t, before, "/docs", "/x", all)
	checkMovedItems(t, all, "/x", "/docs", before)
	for _, v := range []impl.View{before, after, all} {
		checkViewOk(t, greatestGeo, v, true)
	}
}

// Every list of up to four items of seven Paths, updated in all ways.
func TestUpdatesForEveryChoiceOfPaths(t *testing.T) {
	paths := []string{"/a", "/a/b", "/a0", "/b", "/", "", "/a/"}
	everyList(paths, 4, func(list []string) {
		v := markedView(list...)
		checkQuestions(t, v, paths)
		checkUpdates(t, v, paths)
	})
	paths = []string{"/b", "/b/a", "/b/a/c", "/ba", "/a", "/c", "/b/c", "/a/a"}
	everyList(paths, 3, func(list []string) { checkUpdates(t, markedView(list...), paths) })
}

func TestUpdatesOfValidViews(t *testing.T) {
	for _, c := range validViews(3, sampleGeos()) {
		paths := append(pathsOf(c.v), "/", "/none", "/0", "/zzzzzzz", "")
		for _, path := range pathsOf(c.v) {
			paths = append(paths, path+"/n0", path+"0", impl.ParentOf(path))
		}
		checkUpdates(t, c.v, paths)
	}
}

// An update of an item with an invalid Path leaves the others unchanged too.
func TestUpdatesWithInvalidPaths(t *testing.T) {
	v := viewOf(dirItem("/a"), fileItem("/a/b", "x"), fileItem("/abcdefg", "y"))
	for _, path := range append(slices.Clone(pathsWithBothFaults), "/", "") {
		checkUpdates(t, v, []string{"/a", path})
		checkUpdates(t, markedView("/a", path, "/a/b", path, path+"/a"), []string{"/a", path, path + "/a"})
	}
	for _, c := range invalidPaths {
		checkUpdates(t, v, []string{"/a", c.path})
		checkUpdates(t, markedView("/a", c.path, "/a/b", c.path, c.path+"/a"), []string{"/a", c.path, c.path + "/a"})
	}
}

// With many items, of which some are repeated, nothing depends on how they are kept meanwhile.
func TestUpdatesOfManyItems(t *testing.T) {
	source := rand.New(rand.NewSource(72))
	for _, count := range []int{10, 100, 500} {
		v := impl.View{}
		for i := range count {
			v.Items = append(v.Items, impl.Item{Path: randomPath(source, 1+source.Intn(5), 2), Dir: source.Intn(2) == 0, Text: "item " + strconv.Itoa(i)})
		}
		slices.SortFunc(v.Items[:count/2], func(a, b impl.Item) int { return strings.Compare(a.Path, b.Path) })
		paths := []string{"/a", "/none", v.Items[0].Path, v.Items[count/3].Path, v.Items[count-1].Path}
		checkQuestions(t, v, append(paths, "/"))
		checkUpdates(t, v, paths)
	}
}

// A view in ascending order is as good as a map from Paths to items.
func TestUpdatesOneAfterAnother(t *testing.T) {
	source := rand.New(rand.NewSource(73))
	paths := []string{"/a", "/a/b", "/a/b/c", "/a/d", "/a0", "/ab", "/b", "/b/c", "/c", "/", "", "//", "/B"}
	for range 50 {
		v, items := impl.View{}, map[string]impl.Item{}
		for step := range 60 {
			path := paths[source.Intn(len(paths))]
			if source.Intn(3) > 0 {
				x := impl.Item{Path: path, Dir: source.Intn(2) == 0, Text: strconv.Itoa(step)}
				v, items[path] = impl.PutItem(v, x), x
			} else {
				v = impl.DropItem(v, path)
				delete(items, path)
			}
			want := impl.View{}
			for _, x := range items {
				want.Items = append(want.Items, x)
			}
			slices.SortFunc(want.Items, func(a, b impl.Item) int { return strings.Compare(a.Path, b.Path) })
			checkView(t, v, want, "PutItem or DropItem", v, path)
		}
	}
}

// Valid views with anything changed in them.
func TestChangedViews(t *testing.T) {
	source := rand.New(rand.NewSource(74))
	found := map[bool]int{}
	for range 20 {
		for _, c := range validViews(3, sampleGeos()) {
			v := viewCopy(c.v)
			for range 1 + source.Intn(2) {
				changeView(source, &c.g, &v)
			}
			found[len(checkViewAsRequired(t, c.g, v)) == 0]++
			checkSameView(t, c.v, v, equalViews(c.v, v))
			checkQuestions(t, v, append(pathsOf(v), "/", ""))
		}
	}
	if found[true] < 300 || found[false] < 300 {
		t.Errorf("the numbers of valid and invalid views are %v", found)
	}
}

func changeView(source *rand.Rand, g *impl.Geo, v *impl.View) {
	others := []string{"/", "", "/none", "/a", "/a/b", "/n0", "//", "/abcdefgh"}
	if len(v.Items) == 0 {
		v.Items = append(v.Items, fileItem(others[source.Intn(len(others))], longText(source.Intn(200))))
		return
	}
	i, k := source.Intn(len(v.Items)), source.Intn(len(v.Items))
	switch source.Intn(9) {
	case 0:
		v.Items[i], v.Items[k] = v.Items[k], v.Items[i]
	case 1:
		v.Items = slices.Delete(v.Items, i, i+1)
	case 2:
		v.Items = slices.Insert(v.Items, i, v.Items[k])
	case 3:
		v.Items[i].Dir = !v.Items[i].Dir
	case 4:
		v.Items[i].Text = longText(source.Intn(140))
	case 5:
		v.Items[i].Path = others[source.Intn(len(others))]
	case 6:
		v.Items[i].Path += others[source.Intn(len(others))]
	case 7:
		g.Quota = source.Intn(g.Pages)
	case 8:
		g.Inodes += source.Intn(3) - 1
	}
}

func TestSameViewOfEqualViews(t *testing.T) {
	checkSameView(t, impl.View{}, impl.View{}, true)
	checkSameView(t, impl.View{}, viewOf([]impl.Item{}...), true)
	checkSameView(t, impl.View{}, impl.View{Items: []impl.Item{}}, true)
	checkSameView(t, impl.View{}, impl.View{Items: make([]impl.Item, 0, 5)}, true)
	for _, c := range validViews(3, sampleGeos()) {
		checkSameView(t, c.v, c.v, true)
		checkSameView(t, c.v, viewCopy(c.v), true)
		checkSameView(t, c.v, impl.View{}, len(c.v.Items) == 0)
	}
	v := markedView("/b", "/a", "", "/b", "//")
	checkSameView(t, v, markedView("/b", "/a", "", "/b", "//"), true)
}

func TestSameViewOfDifferentViews(t *testing.T) {
	paths := []string{"/a", "/b", "/a", "", "/c"}
	v := markedView(paths...)
	for i, x := range v.Items {
		for _, other := range []impl.Item{
			{Path: x.Path + "a", Dir: x.Dir, Text: x.Text}, {Path: "/x", Dir: x.Dir, Text: x.Text}, {Path: x.Path + "\x00", Dir: x.Dir, Text: x.Text}, {Path: x.Path, Dir: !x.Dir, Text: x.Text},
			{Path: x.Path, Dir: x.Dir, Text: ""}, {Path: x.Path, Dir: x.Dir, Text: x.Text + "\x00"}, {Path: x.Path, Dir: x.Dir, Text: x.Text[1:]}, {Path: x.Path, Dir: x.Dir, Text: "jtem" + x.Text[4:]}, {Path: x.Text, Dir: x.Dir, Text: x.Path}, {},
		} {
			changed := viewCopy(v)
			changed.Items[i] = other
			checkSameView(t, v, changed, false)
		}
		for k := range v.Items {
			swapped := viewCopy(v)
			swapped.Items[i], swapped.Items[k] = swapped.Items[k], swapped.Items[i]
			checkSameView(t, v, swapped, i == k)
		}
		checkSameView(t, v, viewOf(v.Items[:i]...), false)
		checkSameView(t, v, viewOf(v.Items[i+1:]...), false)
		checkSameView(t, v, viewOf(slices.Delete(slices.Clone(v.Items), i, i+1)...), false)
		checkSameView(t, v, viewOf(slices.Insert(slices.Clone(v.Items), i, x)...), false)
	}
	checkSameView(t, impl.View{}, viewOf(impl.Item{}), false)
	checkSameView(t, viewOf(impl.Item{}), viewOf(impl.Item{}, impl.Item{}), false)
}

// Every two views of up to three items out of five.
func TestSameViewForEveryTwoViews(t *testing.T) {
	views := []impl.View{}
	everyList([]impl.Item{dirItem("/a"), fileItem("/a", ""), fileItem("/b", ""), fileItem("/a", "x"), {}}, 3, func(list []impl.Item) { views = append(views, viewOf(slices.Clone(list)...)) })
	for i, a := range views {
		for k, b := range views {
			checkSameView(t, a, b, i == k)
		}
	}
}

// What comes up again is treated as before.
func TestViewsOfLaterCalls(t *testing.T) {
	v := markedView("/b", "/a", "/b", "/c/d", "/e", "/f", "/g", "/a")
	for range 20 {
		checkQuestions(t, v, []string{"/a", "/b", "/", "", "/c"})
		checkUpdates(t, v, []string{"/a", "/b", "/c", "", "/"})
		checkUpdates(t, impl.View{}, []string{"/a", "/b"})
		for _, c := range knownViews {
			checkViewOk(t, c.g, viewOf(c.items...), true)
			checkViewOk(t, impl.Geo{}, viewOf(c.items...), false)
			checkPagesIn(t, viewOf(c.items...), c.pages)
		}
	}
}

// someViews are valid and invalid ones.
func someViews() []impl.View {
	source := rand.New(rand.NewSource(75))
	views := []impl.View{{}, viewOf(impl.Item{}), markedView("/b", "/a", "/b", "", "/a/"), markedView("/c", "/a", "/b", "/a/x", "/a")}
	for _, c := range validViews(3, sampleGeos()) {
		changed := viewCopy(c.v)
		changeView(source, &c.g, &changed)
		views = append(views, c.v, changed)
	}
	return views
}

// updates are all ways to make a view of another one, with texts of their own.
func updates() map[string]func(v impl.View) impl.View {
	made := map[string]func(v impl.View) impl.View{}
	for _, path := range []string{"", "/", "/a", "/a/b", "/docs", "/b", "/zzzzzzz"} {
		path, x := strings.Clone(path), impl.Item{Path: strings.Clone(path), Text: strings.Clone("new text")}
		made["PutItem "+path] = func(v impl.View) impl.View { return impl.PutItem(v, x) }
		made["DropItem "+path] = func(v impl.View) impl.View { return impl.DropItem(v, path) }
		for _, to := range []string{"", "/", "/c", "/a", "/a/c"} {
			to := strings.Clone(to)
			made["MovedItems "+path+" "+to] = func(v impl.View) impl.View { return impl.MovedItems(v, path, to) }
		}
	}
	return made
}

func TestViewsAreLeftAsTheyAre(t *testing.T) {
	for _, v := range someViews() {
		items, whole := amongOthers(v.Items, impl.Item{Path: "/a", Text: "none"})
		given, before := impl.View{Items: items}, slices.Clone(whole)
		for what, update := range updates() {
			one, two, alone := update(given), update(given), update(viewCopy(v))
			overwrite(two.Items, impl.Item{Path: "changed"})
			if !slices.Equal(whole, before) {
				t.Fatalf("%s has changed %#v, or its result shares memory with it", what, v)
			}
			if !equalViews(one, alone) {
				t.Fatalf("%s of %#v: got %#v, and %#v with other items around", what, v, alone, one)
			}
			overwrite(whole, impl.Item{Path: "changed"})
			if !equalViews(one, alone) {
				t.Fatalf("%s of %#v: the result shares memory with the view", what, v)
			}
			copy(whole, before)
		}
		for _, path := range append(pathsOf(v), "/", "", "/none") {
			checkItemAt(t, given, path, firstWith(v, path))
			kids := impl.KidsOf(given, path)
			overwrite(impl.KidsOf(given, path), "changed")
			checkKidsOf(t, given, path, kids...)
			if !slices.Equal(kids, kidsIn(v, path)) {
				t.Fatalf("KidsOf(%#v, %q): two results share memory", v, path)
			}
		}
		checkPagesIn(t, given, pagesOf(v))
		for _, g := range sampleGeos() {
			checkViewOk(t, g, given, len(viewFaults(g, v)) == 0)
		}
		checkSameView(t, given, viewCopy(v), true)
		if !slices.Equal(whole, before) {
			t.Fatalf("a question has changed %#v", v)
		}
	}
}

// viewTexts are the texts of a view.
func viewTexts(v impl.View) []string {
	texts := []string{}
	for _, x := range v.Items {
		texts = append(texts, x.Path, x.Text)
	}
	return texts
}

func TestTextsOfViewsAreNew(t *testing.T) {
	for _, v := range someViews() {
		for i, x := range v.Items {
			// Texts of their own, because those of the tables lie in the program.
			v.Items[i] = impl.Item{Path: strings.Clone(x.Path), Dir: x.Dir, Text: strings.Clone(x.Text)}
		}
		for _, path := range append(pathsOf(v), "/", "/a", "") {
			path, to := strings.Clone(path), strings.Clone("/to")
			x := impl.Item{Path: strings.Clone(path), Text: strings.Clone("new text")}
			given := append(viewTexts(v), path, to, x.Path, x.Text)
			checkTextsNew(t, "PutItem", viewTexts(impl.PutItem(v, x)), given)
			checkTextsNew(t, "DropItem", viewTexts(impl.DropItem(v, path)), given)
			checkTextsNew(t, "MovedItems", viewTexts(impl.MovedItems(v, path, to)), given)
			checkTextsNew(t, "MovedItems to the same Path", viewTexts(impl.MovedItems(v, path, path)), given)
			checkTextsNew(t, "MovedItems to no Path", viewTexts(impl.MovedItems(v, path, "")), given)
			checkTextsNew(t, "KidsOf", impl.KidsOf(v, path), given)
		}
		checkTextsNew(t, "MovedItems of several items with a Path", viewTexts(impl.MovedItems(v, "/a", "/a")), viewTexts(v))
	}
}
