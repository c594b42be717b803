package tests

import (
	"math"
	"math/rand"
	"slices"
	"strconv"
	"strings"
	"testing"

	"loop.example/g00969/impl"
)

// The kinds of operations that ask for what is at a path, all but OpCreate and OpMkdir.
var kindsLookingUp = []int{impl.OpUnlink, impl.OpRmdir, impl.OpRename, impl.OpRead, impl.OpWrite, impl.OpTruncate, impl.OpStat, impl.OpList, impl.OpSync}

var allKinds = append([]int{impl.OpCreate, impl.OpMkdir}, kindsLookingUp...)

func toDo(kind int, path string) impl.Ask { return impl.Ask{Kind: kind, Path: path} }

func toCreate(path string) impl.Ask { return toDo(impl.OpCreate, path) }

func toMkdir(path string) impl.Ask { return toDo(impl.OpMkdir, path) }

func toUnlink(path string) impl.Ask { return toDo(impl.OpUnlink, path) }

func toRmdir(path string) impl.Ask { return toDo(impl.OpRmdir, path) }

func toRename(path string, to string) impl.Ask {
	return impl.Ask{Kind: impl.OpRename, Path: path, To: to}
}

func toRead(path string, off int, length int) impl.Ask {
	return impl.Ask{Kind: impl.OpRead, Path: path, Off: off, Len: length}
}

func toWrite(path string, off int, text string) impl.Ask {
	return impl.Ask{Kind: impl.OpWrite, Path: path, Off: off, Text: text}
}

func toTruncate(path string, length int) impl.Ask {
	return impl.Ask{Kind: impl.OpTruncate, Path: path, Len: length}
}

func toStat(path string) impl.Ask { return toDo(impl.OpStat, path) }

func toList(path string) impl.Ask { return toDo(impl.OpList, path) }

func toSync(path string) impl.Ask { return toDo(impl.OpSync, path) }

// withOthers sets the fields that an operation has no use for. Text stays short enough to be valid.
func withOthers(a impl.Ask) impl.Ask {
	if a.Kind != impl.OpRename {
		a.To = "no//path"
	}
	if a.Kind != impl.OpRead && a.Kind != impl.OpWrite {
		a.Off = -5
	}
	if a.Kind != impl.OpRead && a.Kind != impl.OpTruncate {
		a.Len = math.MinInt
	}
	if a.Kind != impl.OpWrite && a.Text == "" {
		a.Text = strings.Repeat("no text", 28)
	}
	return a
}

// rejected is the result of an operation that a code applies to.
func rejected(code int) impl.Result { return impl.Result{Code: code} }

// homeView has five inodes and three pages in use; homeGeo allows one more inode and one more page.
var (
	homeGeo  = impl.Geo{Tenants: 2, Pages: 8, Inodes: 6, Quota: 4}
	homeView = viewOf(dirItem("/a"), dirItem("/a/b"), fileItem("/a/f", "hello"), fileItem("/g", longText(33)))
)

// lookedUpAsWritten, and the functions below, go by the letter of the specification, with the codes as numbers.
func lookedUpAsWritten(v impl.View, path string) int {
	if path == "/" || firstWith(v, path) >= 0 {
		return 0
	}
	if code := writtenCode(path); code != 0 {
		return code
	}
	for end := 1; end < len(path); end++ {
		if path[end] != '/' {
			continue
		}
		i := firstWith(v, path[:end])
		if i < 0 {
			return 3
		}
		if !v.Items[i].Dir {
			return 4
		}
	}
	return 3
}

func placeAsWritten(v impl.View, path string) int {
	parent, _ := parentAndLast(path)
	i := firstWith(v, parent)
	return firstCode(
		writtenCode(path),
		codeIf(path == "/", 6),
		lookedUpAsWritten(v, parent),
		codeIf(parent != "/" && (i < 0 || !v.Items[i].Dir), 4),
		codeIf(firstWith(v, path) >= 0, 6),
		codeIf(len(kidsIn(v, parent)) >= 6, 7),
	)
}

func firstCode(codes ...int) int {
	for _, code := range codes {
		if code != 0 {
			return code
		}
	}
	return 0
}

func codeIf(applies bool, code int) int {
	if applies {
		return code
	}
	return 0
}

// overwritten puts one byte after another.
func overwritten(old string, off int, text string) string {
	if text == "" || off < 0 || off > 128 || len(text) > 128 || off+len(text) > 128 || len(old) > 128 {
		return old
	}
	whole := []byte(old)
	for i := range len(text) {
		for off+i >= len(whole) {
			whole = append(whole, 0)
		}
		whole[off+i] = text[i]
	}
	return string(whole)
}

func cutAsWritten(old string, size int) string {
	if size < 0 || size > 128 {
		return old
	}
	for len(old) < size {
		old += "\x00"
	}
	return old[:size]
}

func readAsWritten(text string, off int, length int) string {
	part := ""
	for i := off; i >= 0 && i < len(text) && len(part) < length; i++ {
		part += text[i : i+1]
	}
	return part
}

func askedAsWritten(g impl.Geo, v impl.View, a impl.Ask) (impl.View, impl.Result) {
	if a.Kind < 1 || a.Kind > 11 || len(a.Text) > 200 {
		return v, rejected(16)
	}
	x := impl.Item{}
	if i := firstWith(v, a.Path); i >= 0 {
		x = v.Items[i]
	}
	isDir := x.Dir || a.Path == "/"
	lookedUp := lookedUpAsWritten(v, a.Path)
	code, after, r := lookedUp, v, impl.Result{}
	switch a.Kind {
	case 1, 2:
		code = firstCode(placeAsWritten(v, a.Path), codeIf(len(v.Items) >= g.Inodes-1, 8))
		after = itemsWith(v, impl.Item{Path: a.Path, Dir: a.Kind == 2})
	case 3:
		code = firstCode(lookedUp, codeIf(isDir, 5))
		after = itemsWithout(v, a.Path)
	case 4:
		code = firstCode(lookedUp, codeIf(a.Path == "/", 9), codeIf(!isDir, 4), codeIf(len(kidsIn(v, a.Path)) > 0, 10))
		after = itemsWithout(v, a.Path)
	case 5:
		place := placeAsWritten(v, a.To)
		from, _ := parentAndLast(a.Path)
		if to, _ := parentAndLast(a.To); place == 7 && from == to {
			place = 0
		}
		code = firstCode(lookedUp, codeIf(a.Path == "/", 9), codeIf(isBelow(a.To, a.Path), 11), place)
		after = itemsMoved(v, a.Path, a.To)
	case 6:
		code = firstCode(lookedUp, codeIf(isDir, 5), codeIf(a.Off < 0 || a.Len < 0, 12))
		r.Text = readAsWritten(x.Text, a.Off, a.Len)
	case 7:
		after = itemsWith(v, impl.Item{Path: a.Path, Text: overwritten(x.Text, a.Off, a.Text)})
		code = firstCode(lookedUp, codeIf(isDir, 5), codeIf(a.Off < 0 || a.Off > 128 || a.Off+len(a.Text) > 128, 12), codeIf(pagesOf(after) > g.Quota, 13))
		r.Size = len(a.Text)
	case 8:
		after = itemsWith(v, impl.Item{Path: a.Path, Text: cutAsWritten(x.Text, a.Len)})
		code = firstCode(lookedUp, codeIf(isDir, 5), codeIf(a.Len < 0 || a.Len > 128, 12), codeIf(pagesOf(after) > g.Quota, 13))
	case 9:
		r.Dir = isDir
		if !isDir {
			r.Size = len(x.Text)
		}
	case 10:
		code = firstCode(lookedUp, codeIf(!isDir, 4))
		r.Names = kidsIn(v, a.Path)
	}
	if code != 0 {
		return v, rejected(code)
	}
	return after, r
}

func equalResults(a impl.Result, b impl.Result) bool {
	return a.Code == b.Code && a.Text == b.Text && a.Size == b.Size && a.Dir == b.Dir && slices.Equal(a.Names, b.Names)
}

func checkAskOk(t *testing.T, a impl.Ask, want bool) {
	t.Helper()
	if got := impl.AskOk(a); got != want {
		t.Errorf("AskOk(%#v): got %v, want %v", a, got, want)
	}
}

func checkLookUp(t *testing.T, v impl.View, path string, want int) {
	t.Helper()
	if got := impl.LookUp(v, path); got != want {
		t.Errorf("LookUp(%#v, %.200q): got %d, want %d", v, path, got, want)
	}
}

func checkPlaceFor(t *testing.T, v impl.View, path string, want int) {
	t.Helper()
	if got := impl.PlaceFor(v, path); got != want {
		t.Errorf("PlaceFor(%#v, %.200q): got %d, want %d", v, path, got, want)
	}
}

func checkTextWith(t *testing.T, old string, off int, text string, want string) {
	t.Helper()
	if got := impl.TextWith(old, off, text); got != want {
		t.Errorf("TextWith(%q, %d, %q): got %q, want %q", old, off, text, got, want)
	}
}

func checkTextCut(t *testing.T, old string, size int, want string) {
	t.Helper()
	if got := impl.TextCut(old, size); got != want {
		t.Errorf("TextCut(%q, %d): got %q, want %q", old, size, got, want)
	}
}

// checkAsked wants the same, whatever is in the fields that the operation has no use for.
func checkAsked(t *testing.T, g impl.Geo, v impl.View, a impl.Ask, want impl.View, r impl.Result) {
	t.Helper()
	for _, a := range []impl.Ask{a, withOthers(a)} {
		after, got := impl.Asked(g, v, a)
		if !equalViews(after, want) || !equalResults(got, r) {
			t.Errorf("Asked(%+v, %#v, %#v): got %#v and %#v, want %#v and %#v", g, v, a, after, got, want, r)
		}
		checkKeptPromise(t, g, v, a, after, got)
	}
}

// checkKeptPromise wants a valid view to stay valid and, where the operation is rejected, anything to stay as it is.
func checkKeptPromise(t *testing.T, g impl.Geo, v impl.View, a impl.Ask, after impl.View, r impl.Result) {
	t.Helper()
	if r.Code != 0 && (!equalViews(after, v) || !equalResults(r, rejected(r.Code))) {
		t.Errorf("Asked(%+v, %#v, %#v) is rejected, but returns %#v and %#v", g, v, a, after, r)
	}
	if impl.ViewOk(g, v) && !impl.ViewOk(g, after) {
		t.Errorf("Asked(%+v, %#v, %#v): the view %#v is not valid", g, v, a, after)
	}
	if a.Kind != impl.OpRename {
		checkOthersKept(t, "Asked", v, after, a.Path)
	}
}

func checkRejected(t *testing.T, g impl.Geo, v impl.View, a impl.Ask, code int) {
	t.Helper()
	checkAsked(t, g, v, a, v, rejected(code))
}

// checkAskedAsWritten returns the code.
func checkAskedAsWritten(t *testing.T, g impl.Geo, v impl.View, a impl.Ask) int {
	t.Helper()
	after, r := askedAsWritten(g, v, a)
	checkAsked(t, g, v, a, after, r)
	return r.Code
}

func TestAsksConstants(t *testing.T) {
	for i, kind := range allKinds {
		if kind != i+1 {
			t.Errorf("got %d as the kind %d", kind, i+1)
		}
	}
	if len(allKinds) != 11 {
		t.Errorf("there are %d kinds", len(allKinds))
	}
}

func TestAskOkOfEachKind(t *testing.T) {
	kinds := slices.Clone(numbersOfNothing)
	for kind := -5; kind < 300; kind++ {
		kinds = append(kinds, kind)
	}
	for _, kind := range kinds {
		known := kind >= 1 && kind <= 11
		for length, short := range map[int]bool{0: true, 1: true, 128: true, 129: true, 199: true, 200: true, 201: false, 202: false, 256: false, 400: false, 65536: false, 65636: false} {
			checkAskOk(t, impl.Ask{Kind: kind, Text: longText(length)}, known && short)
			checkAskOk(t, impl.Ask{Kind: kind, Path: "/a", To: "/b", Off: 1, Len: 2, Text: strings.Repeat("\x00", length)}, known && short)
		}
	}
	checkAskOk(t, impl.Ask{}, false)
}

// The text is counted in bytes, and nothing else is asked of the other fields.
func TestAskOkWithAnyOtherFields(t *testing.T) {
	for _, kind := range allKinds {
		checkAskOk(t, impl.Ask{Kind: kind, Text: strings.Repeat("\xc3\xa9", 100)}, true)
		checkAskOk(t, impl.Ask{Kind: kind, Text: strings.Repeat("\xc3\xa9", 100) + "a"}, false)
		for _, n := range append(numbersOfNothing, 0, 128, 129, 200, 201) {
			for _, path := range []string{"", "/", "//", "a", longText(201), longText(1000)} {
				checkAskOk(t, impl.Ask{Kind: kind, Path: path, To: path, Off: n, Len: n, Text: longText(200)}, true)
				checkAskOk(t, impl.Ask{Kind: kind, Path: path, To: path, Off: n, Len: n, Text: longText(201)}, false)
			}
		}
	}
}

func TestLookUpOfKnownPaths(t *testing.T) {
	for path, want := range map[string]int{
		"/": 0, "/a": 0, "/a/b": 0, "/a/f": 0, "/g": 0,
		// All parents are directories.
		"/b": impl.ErNone, "/a/c": impl.ErNone, "/a/b/c": impl.ErNone, "/a0": impl.ErNone, "/0": impl.ErNone, "/zzzzzzz": impl.ErNone, "/f": impl.ErNone, "/aa": impl.ErNone,
		// The first or a middle name is missing.
		"/b/a": impl.ErNone, "/b/c/d": impl.ErNone, "/b/a/f/g": impl.ErNone, "/a/c/d": impl.ErNone, "/a/b/c/d": impl.ErNone, "/a/c/f": impl.ErNone, "/f/a": impl.ErNone,
		// It is a file.
		"/g/a": impl.ErNotDir, "/g/g": impl.ErNotDir, "/a/f/a": impl.ErNotDir, "/a/f/f": impl.ErNotDir, "/a/f/a/b": impl.ErNotDir, "/g/a/b": impl.ErNotDir, "/g/a/b/c/d": impl.ErNotDir, "/a/f/a/b/c": impl.ErNotDir,
		"": impl.ErPath, "a": impl.ErPath, "/a/": impl.ErPath, "//": impl.ErPath, "//a": impl.ErPath, "/a//b": impl.ErPath, "/A": impl.ErPath, "/a/b/": impl.ErPath, "/g/": impl.ErPath, "/a\x00": impl.ErPath, "/g/a/": impl.ErPath, "/b//c": impl.ErPath,
		"/abcdefgh": impl.ErName, "/a/abcdefgh": impl.ErName, "/g/abcdefgh": impl.ErName, "/b/abcdefgh": impl.ErName, "/abcdefgh/a": impl.ErName, "/g/abcdefgh/a": impl.ErName,
	} {
		checkLookUp(t, homeView, path, want)
	}
}

func TestLookUpInAnEmptyView(t *testing.T) {
	for _, v := range []impl.View{{}, {Items: []impl.Item{}}, {Items: []impl.Item{dirItem("/a")}[:0]}} {
		checkLookUp(t, v, "/", 0)
		checkLookUp(t, v, "/a", impl.ErNone)
		checkLookUp(t, v, "/a/b", impl.ErNone)
		for _, c := range invalidPaths {
			checkLookUp(t, v, c.path, c.code)
		}
		for _, path := range pathsWithBothFaults {
			checkLookUp(t, v, path, impl.ErPath)
		}
		for _, c := range knownPaths {
			checkLookUp(t, v, c.path, codeIf(c.path != "/", impl.ErNone))
		}
	}
}

// Whatever an item has as its Path is there.
func TestLookUpOfInvalidPathsThatItemsHave(t *testing.T) {
	for _, c := range append(slices.Clone(invalidPaths), struct {
		path string
		code int
	}{"/abcdefgh/.", 1}) {
		for _, x := range []impl.Item{dirItem(c.path), fileItem(c.path, ""), fileItem(c.path, "x")} {
			checkLookUp(t, viewOf(x), c.path, 0)
			checkLookUp(t, viewOf(dirItem("/a"), x), c.path, 0)
			checkLookUp(t, viewOf(x), c.path+"/.", impl.ErPath)
			checkLookUp(t, viewOf(x), "/a", impl.ErNone)
		}
		checkLookUp(t, viewOf(dirItem("/a"), fileItem("/b", c.path)), c.path, c.code)
	}
}

// The nearest to the root is what counts, also where items have no parent or a file has children.
func TestLookUpInInvalidViews(t *testing.T) {
	v := viewOf(dirItem("/a/b"), fileItem("/b", ""), dirItem("/b/c"), fileItem("/c", ""), dirItem("/c"), dirItem("/d"), fileItem("/d", ""), fileItem("/e", ""), dirItem("/e/f/g"), dirItem("/h"), fileItem("/h/i/j", ""))
	for path, want := range map[string]int{
		"/a/b": 0, "/a": impl.ErNone, "/a/b/c": impl.ErNone, "/b/c": 0, "/b/c/d": impl.ErNotDir, "/b/d": impl.ErNotDir, "/c": 0, "/c/d": impl.ErNotDir, "/d/e": impl.ErNone, "/d/e/f": impl.ErNone,
		"/e/f": impl.ErNotDir, "/e/f/g": 0, "/e/f/g/h": impl.ErNotDir, "/h/i": impl.ErNone, "/h/i/j": 0, "/h/i/j/k": impl.ErNone, "/h/k": impl.ErNone,
	} {
		checkLookUp(t, v, path, want)
	}
	for _, root := range []impl.Item{dirItem("/"), fileItem("/", ""), fileItem("/", "x")} {
		v := viewOf(root, dirItem("/a"), fileItem("/b", ""))
		checkLookUp(t, v, "/", 0)
		checkLookUp(t, v, "/c", impl.ErNone)
		checkLookUp(t, v, "/a/c", impl.ErNone)
		checkLookUp(t, v, "/b/c", impl.ErNotDir)
		checkLookUp(t, v, "/c/a", impl.ErNone)
	}
}

// A path of up to thirty names, of which the first ones are directories, then one is a file or missing.
func TestLookUpAtEachDepth(t *testing.T) {
	whole := strings.Repeat("/a", 30)
	for depth := range 31 {
		v := impl.View{}
		for i := range depth {
			v.Items = append(v.Items, dirItem(whole[:2*i+2]))
		}
		withFile := viewOf(append(slices.Clone(v.Items), fileItem(whole[:2*depth]+"/b", "x"))...)
		for i := range 30 {
			want := codeIf(i >= depth, impl.ErNone)
			checkLookUp(t, v, whole[:2*i+2], want)
			checkLookUp(t, withFile, whole[:2*i+2], want)
		}
		checkLookUp(t, v, "/"+whole, impl.ErPath)
		if depth > 27 {
			continue
		}
		checkLookUp(t, withFile, whole[:2*depth]+"/b", 0)
		checkLookUp(t, withFile, whole[:2*depth]+"/b/c", impl.ErNotDir)
		checkLookUp(t, withFile, whole[:2*depth]+"/b/c/d", codeIf(depth < 28, impl.ErNotDir))
		checkLookUp(t, withFile, whole[:2*depth]+"/c/d", impl.ErNone)
	}
	checkLookUp(t, viewOf(dirItem("/a")), whole+"/a", impl.ErPath)
}

func TestPlaceForKnownPaths(t *testing.T) {
	for path, want := range map[string]int{
		"/b": 0, "/a/c": 0, "/a/b/c": 0, "/0": 0, "/zzzzzzz": 0, "/a/b/zzzzzzz": 0, "/aa": 0, "/f": 0,
		"/a": impl.ErThere, "/a/b": impl.ErThere, "/a/f": impl.ErThere, "/g": impl.ErThere, "/": impl.ErThere,
		"/b/a": impl.ErNone, "/b/c/d": impl.ErNone, "/a/c/d": impl.ErNone, "/a/b/c/d": impl.ErNone, "/f/a": impl.ErNone,
		// The parent, or one further up, is a file.
		"/g/a": impl.ErNotDir, "/a/f/a": impl.ErNotDir, "/g/a/b": impl.ErNotDir, "/a/f/a/b/c": impl.ErNotDir,
		"": impl.ErPath, "a": impl.ErPath, "/a/": impl.ErPath, "//": impl.ErPath, "/a//b": impl.ErPath, "/A": impl.ErPath, "/g/": impl.ErPath, "/g/a/": impl.ErPath, "/c/d/": impl.ErPath,
		"/abcdefgh": impl.ErName, "/a/abcdefgh": impl.ErName, "/g/abcdefgh": impl.ErName, "/c/abcdefgh": impl.ErName, "/abcdefgh/a": impl.ErName,
	} {
		checkPlaceFor(t, homeView, path, want)
		checkPlaceFor(t, impl.View{}, path, firstCode(writtenCode(path), codeIf(path == "/", impl.ErThere), codeIf(strings.Count(path, "/") > 1, impl.ErNone)))
	}
}

// crowdedView has as many children in "/d" as a directory may have, more in "/e", and one less in "/l".
func crowdedView() impl.View {
	v := viewOf(dirItem("/d"))
	for i := range 6 {
		v.Items = append(v.Items, fileItem("/d/"+strconv.Itoa(i), ""))
	}
	v.Items = append(v.Items, dirItem("/e"))
	for i := range 9 {
		v.Items = append(v.Items, dirItem("/e/"+strconv.Itoa(i)))
	}
	v.Items = append(v.Items, fileItem("/f", "x"), dirItem("/l"))
	for i := range 5 {
		v.Items = append(v.Items, fileItem("/l/"+strconv.Itoa(i), ""))
	}
	return v
}

func TestPlaceForEachNumberOfChildren(t *testing.T) {
	for count := range 10 {
		v := viewOf(dirItem("/d"), fileItem("/z", ""))
		root := impl.View{}
		for i := range count {
			v.Items = append(v.Items, fileItem("/d/"+strconv.Itoa(i), ""))
			root.Items = append(root.Items, dirItem("/"+strconv.Itoa(i)))
		}
		want := codeIf(count >= 6, impl.ErFull)
		checkPlaceFor(t, v, "/d/x", want)
		checkPlaceFor(t, v, "/x", 0)
		checkPlaceFor(t, root, "/x", want)
		if count > 0 {
			checkPlaceFor(t, v, "/d/0", impl.ErThere)
			checkPlaceFor(t, root, "/0", impl.ErThere)
			checkPlaceFor(t, root, "/0/x", 0)
		}
	}
	v := crowdedView()
	for path, want := range map[string]int{"/d/x": impl.ErFull, "/e/x": impl.ErFull, "/l/x": 0, "/x": 0, "/e/0/x": 0, "/d/0/x": impl.ErNotDir, "/f/x": impl.ErNotDir, "/d/0": impl.ErThere, "/e/8": impl.ErThere, "/l/4": impl.ErThere, "/d/x/y": impl.ErNone, "/d/abcdefgh": impl.ErName, "/d/": impl.ErPath} {
		checkPlaceFor(t, v, path, want)
	}
}

// In views that are not valid several codes may apply: the first one counts.
func TestPlaceForWhereSeveralCodesApply(t *testing.T) {
	full := []impl.Item{}
	for i := range 7 {
		full = append(full, fileItem("/f/"+strconv.Itoa(i), ""), fileItem("/n/"+strconv.Itoa(i), ""), fileItem("/"+strconv.Itoa(i), ""))
	}
	v := viewOf(append([]impl.Item{fileItem("/f", ""), fileItem("/A", ""), fileItem("/n/", ""), fileItem("/abcdefgh", ""), fileItem("/", ""), dirItem("/d")}, full...)...)
	for path, want := range map[string]int{
		// Invalid, with an item of this Path, or in something that is missing or no directory.
		"/A": impl.ErPath, "/n/": impl.ErPath, "/abcdefgh": impl.ErName, "/f/abcdefgh": impl.ErName, "/n/abcdefgh": impl.ErName, "/n/A": impl.ErPath, "/f/A": impl.ErPath, "/f/.abcdefgh": impl.ErPath,
		// The root, which is full.
		"/": impl.ErThere,
		// The parent is missing or a file, while there is an item and there are too many children.
		"/n/0": impl.ErNone, "/n/x": impl.ErNone, "/f/0": impl.ErNotDir, "/f/x": impl.ErNotDir, "/f/x/y": impl.ErNotDir, "/n/x/y": impl.ErNone, "/n/0/y": impl.ErNotDir,
		// There, in a full directory.
		"/0": impl.ErThere, "/f": impl.ErThere, "/x": impl.ErFull, "/d": impl.ErThere, "/d/x": 0,
	} {
		checkPlaceFor(t, v, path, want)
		if got := placeAsWritten(v, path); got != want {
			t.Errorf("the test itself has %d for %q", got, path)
		}
	}
	for _, c := range invalidPaths {
		checkPlaceFor(t, viewOf(dirItem(c.path)), c.path, c.code)
		checkPlaceFor(t, impl.View{}, c.path, c.code)
		// A parent that no path has is of no use.
		checkPlaceFor(t, viewOf(dirItem(c.path)), c.path+"/a", writtenCode(c.path+"/a"))
	}
	for _, path := range pathsWithBothFaults {
		checkPlaceFor(t, viewOf(dirItem(path)), path, impl.ErPath)
	}
}

func TestPlaceForNextToAnItemForTheRoot(t *testing.T) {
	for _, root := range []impl.Item{dirItem("/"), fileItem("/", ""), fileItem("/", "x"), {Path: "/", Dir: true, Text: "x"}} {
		v := viewOf(root, dirItem("/a"), fileItem("/b", ""))
		for path, want := range map[string]int{"/": impl.ErThere, "/c": 0, "/a/c": 0, "/a": impl.ErThere, "/b": impl.ErThere, "/b/c": impl.ErNotDir, "/c/d": impl.ErNone} {
			checkPlaceFor(t, v, path, want)
		}
	}
}

func TestTextWithOfKnownTexts(t *testing.T) {
	for _, c := range []struct {
		old  string
		off  int
		text string
		want string
	}{
		{"abcdef", 2, "xy", "abxyef"}, {"abcdef", 0, "xy", "xycdef"}, {"abcdef", 4, "xy", "abcdxy"}, {"abcdef", 5, "xy", "abcdexy"}, {"abcdef", 6, "xy", "abcdefxy"}, {"abcdef", 7, "xy", "abcdef\x00xy"}, {"abcdef", 9, "xy", "abcdef\x00\x00\x00xy"},
		{"abcdef", 0, "uvwxyz", "uvwxyz"}, {"abcdef", 0, "tuvwxyz", "tuvwxyz"}, {"abcdef", 0, "z", "zbcdef"}, {"abcdef", 5, "z", "abcdez"}, {"abcdef", 3, "uvwxyz", "abcuvwxyz"},
		{"", 0, "x", "x"}, {"", 0, "xyz", "xyz"}, {"", 1, "x", "\x00x"}, {"", 3, "xyz", "\x00\x00\x00xyz"}, {"a", 0, "x", "x"}, {"a", 1, "x", "ax"}, {"a", 2, "x", "a\x00x"},
		{"\xff\xff", 1, "\x00", "\xff\x00"}, {"\x00", 1, "\x00", "\x00\x00"}, {"\xc3\xa9\xc3\xa9", 1, "\xff", "\xc3\xff\xc3\xa9"}, {"a", 2, "\xc3\xa9", "a\x00\xc3\xa9"},
		// An empty text changes nothing, not even the length.
		{"abcdef", 2, "", "abcdef"}, {"abcdef", 6, "", "abcdef"}, {"abcdef", 7, "", "abcdef"}, {"abcdef", 128, "", "abcdef"}, {"abcdef", 129, "", "abcdef"}, {"abcdef", -1, "", "abcdef"}, {"", 0, "", ""}, {"", 5, "", ""}, {"", math.MaxInt, "", ""},
		{"abcdef", -1, "xy", "abcdef"}, {"abcdef", -2, "xy", "abcdef"}, {"abcdef", -6, "xy", "abcdef"}, {"", -1, "x", ""}, {"", -1, "xyz", ""}, {"abcdef", math.MinInt, "xy", "abcdef"},
		// Up to MaxFile, and one byte more.
		{"", 127, "x", strings.Repeat("\x00", 127) + "x"}, {"", 128, "x", ""}, {"", 126, "xy", strings.Repeat("\x00", 126) + "xy"}, {"", 127, "xy", ""}, {"a", 127, "xy", "a"}, {"a", 129, "x", "a"},
		{"", 0, longText(128), longText(128)}, {"", 0, longText(129), ""}, {"a", 0, longText(128), longText(128)}, {"a", 1, longText(127), "a" + longText(127)}, {"a", 1, longText(128), "a"}, {"a", 0, longText(129), "a"}, {"ab", 0, longText(1000), "ab"},
		{longText(128), 0, "x", "x" + longText(128)[1:]}, {longText(128), 127, "x", longText(128)[:127] + "x"}, {longText(128), 128, "x", longText(128)}, {longText(128), 127, "xy", longText(128)}, {longText(127), 127, "x", longText(127) + "x"}, {longText(127), 127, "xy", longText(127)},
		// An old text that is too long stays.
		{longText(129), 0, "x", longText(129)}, {longText(129), 128, "x", longText(129)}, {longText(129), 129, "x", longText(129)}, {longText(129), 0, longText(128), longText(129)}, {longText(129), 1, "", longText(129)}, {longText(500), 3, "xyz", longText(500)},
		{"abc", math.MaxInt, "x", "abc"}, {"abc", math.MaxInt - 1, "xy", "abc"}, {"abc", math.MaxInt - 127, longText(128), "abc"}, {"abc", math.MaxInt - 2, longText(128), "abc"}, {"abc", 1 << 32, "x", "abc"}, {"abc", 256, "x", "abc"},
	} {
		checkTextWith(t, c.old, c.off, c.text, c.want)
		if got := overwritten(c.old, c.off, c.text); got != c.want {
			t.Errorf("the test itself has %q, not %q", got, c.want)
		}
	}
}

func TestTextWithForEachLength(t *testing.T) {
	offs := []int{-1, 0, 1, 2, 31, 32, 33, 63, 64, 100, 126, 127, 128, 129, 130, 1000}
	lengths := []int{0, 1, 2, 3, 31, 32, 33, 63, 64, 65, 96, 126, 127, 128, 129, 130, 200, 201}
	for _, old := range lengths {
		for _, length := range lengths {
			for _, off := range append(offs, old-1, old, old+1, old-length, 128-length, 129-length) {
				text := strings.Repeat("#", length)
				checkTextWith(t, longText(old), off, text, overwritten(longText(old), off, text))
			}
		}
		for _, off := range numbersOfNothing {
			checkTextWith(t, longText(old), off, "text", longText(old))
		}
	}
}

func TestTextWithOfEveryShortText(t *testing.T) {
	texts := []string{}
	everyList([]string{"a", "\x00", "\xff"}, 3, func(list []string) { texts = append(texts, strings.Join(list, "")) })
	for _, old := range texts {
		for _, text := range texts {
			for off := -2; off < 6; off++ {
				checkTextWith(t, old, off, text, overwritten(old, off, text))
			}
		}
	}
}

func TestTextCutOfKnownTexts(t *testing.T) {
	for _, c := range []struct {
		old  string
		size int
		want string
	}{
		{"ab", 3, "ab\x00"}, {"ab", 2, "ab"}, {"ab", 1, "a"}, {"ab", 0, ""}, {"ab", 5, "ab\x00\x00\x00"}, {"", 0, ""}, {"", 1, "\x00"}, {"", 3, "\x00\x00\x00"}, {"\x00", 0, ""}, {"\x00", 1, "\x00"}, {"\xff\x00\xff", 2, "\xff\x00"}, {"\xc3\xa9", 1, "\xc3"},
		{"ab", -1, "ab"}, {"ab", -2, "ab"}, {"", -1, ""}, {"ab", math.MinInt, "ab"}, {"ab", 129, "ab"}, {"ab", 256, "ab"}, {"ab", math.MaxInt, "ab"}, {"", 129, ""}, {"ab", 1<<32 + 1, "ab"},
		{"ab", 128, "ab" + strings.Repeat("\x00", 126)}, {"", 128, strings.Repeat("\x00", 128)}, {longText(128), 128, longText(128)}, {longText(128), 127, longText(128)[:127]}, {longText(128), 129, longText(128)}, {longText(128), 0, ""}, {longText(127), 128, longText(127) + "\x00"},
		// An old text that is too long can be cut, but it stays where the size is out of range.
		{longText(129), 128, longText(129)[:128]}, {longText(129), 129, longText(129)}, {longText(129), 0, ""}, {longText(129), 1, longText(129)[:1]}, {longText(500), 128, longText(500)[:128]}, {longText(500), 300, longText(500)}, {longText(500), -1, longText(500)},
	} {
		checkTextCut(t, c.old, c.size, c.want)
		if got := cutAsWritten(c.old, c.size); got != c.want {
			t.Errorf("the test itself has %q, not %q", got, c.want)
		}
	}
}

func TestTextCutForEachLength(t *testing.T) {
	for _, old := range []int{0, 1, 2, 31, 32, 33, 64, 96, 97, 127, 128, 129, 130, 200, 500} {
		for size := -3; size < 260; size++ {
			checkTextCut(t, longText(old), size, cutAsWritten(longText(old), size))
		}
		for _, size := range numbersOfNothing {
			checkTextCut(t, longText(old), size, longText(old))
		}
	}
}

func TestAskedWithSuccess(t *testing.T) {
	a, b, f, g, done := dirItem("/a"), dirItem("/a/b"), fileItem("/a/f", "hello"), fileItem("/g", longText(33)), impl.Result{}
	for _, c := range []struct {
		a     impl.Ask
		after impl.View
		r     impl.Result
	}{
		{toCreate("/h"), viewOf(a, b, f, g, fileItem("/h", "")), done},
		{toCreate("/0"), viewOf(fileItem("/0", ""), a, b, f, g), done},
		{toCreate("/a/b/c"), viewOf(a, b, fileItem("/a/b/c", ""), f, g), done},
		{toCreate("/a0"), viewOf(a, b, f, fileItem("/a0", ""), g), done},
		{toMkdir("/h"), viewOf(a, b, f, g, dirItem("/h")), done},
		{toMkdir("/0"), viewOf(dirItem("/0"), a, b, f, g), done},
		{toMkdir("/a/b/abcdefg"), viewOf(a, b, dirItem("/a/b/abcdefg"), f, g), done},
		{toUnlink("/a/f"), viewOf(a, b, g), done},
		{toUnlink("/g"), viewOf(a, b, f), done},
		{toRmdir("/a/b"), viewOf(a, f, g), done},
		{toRename("/g", "/h"), viewOf(a, b, f, fileItem("/h", longText(33))), done},
		{toRename("/g", "/0"), viewOf(fileItem("/0", longText(33)), a, b, f), done},
		{toRename("/g", "/a/b/g"), viewOf(a, b, fileItem("/a/b/g", longText(33)), f), done},
		{toRename("/a/f", "/f"), viewOf(a, b, fileItem("/f", "hello"), g), done},
		{toRename("/a/f", "/a/a"), viewOf(a, fileItem("/a/a", "hello"), b, g), done},
		{toRename("/a/b", "/b"), viewOf(a, f, dirItem("/b"), g), done},
		{toRename("/a", "/z"), viewOf(g, dirItem("/z"), dirItem("/z/b"), fileItem("/z/f", "hello")), done},
		{toRename("/a", "/abcdefg"), viewOf(dirItem("/abcdefg"), dirItem("/abcdefg/b"), fileItem("/abcdefg/f", "hello"), g), done},
		{toRead("/a/f", 0, 5), homeView, impl.Result{Text: "hello"}},
		{toRead("/a/f", 1, 3), homeView, impl.Result{Text: "ell"}},
		{toRead("/g", 30, 100), homeView, impl.Result{Text: longText(33)[30:]}},
		{toWrite("/a/f", 0, "HE"), viewOf(a, b, fileItem("/a/f", "HEllo"), g), impl.Result{Size: 2}},
		{toWrite("/a/f", 5, " you"), viewOf(a, b, fileItem("/a/f", "hello you"), g), impl.Result{Size: 4}},
		{toWrite("/a/f", 7, "x"), viewOf(a, b, fileItem("/a/f", "hello\x00\x00x"), g), impl.Result{Size: 1}},
		{toWrite("/a/f", 7, ""), homeView, done},
		{toWrite("/g", 0, longText(96)), viewOf(a, b, f, fileItem("/g", longText(96))), impl.Result{Size: 96}},
		{toTruncate("/a/f", 2), viewOf(a, b, fileItem("/a/f", "he"), g), done},
		{toTruncate("/a/f", 5), homeView, done},
		{toTruncate("/a/f", 7), viewOf(a, b, fileItem("/a/f", "hello\x00\x00"), g), done},
		{toTruncate("/g", 0), viewOf(a, b, f, fileItem("/g", "")), done},
		{toStat("/"), homeView, impl.Result{Dir: true}},
		{toStat("/a"), homeView, impl.Result{Dir: true}},
		{toStat("/a/b"), homeView, impl.Result{Dir: true}},
		{toStat("/a/f"), homeView, impl.Result{Size: 5}},
		{toStat("/g"), homeView, impl.Result{Size: 33}},
		{toList("/"), homeView, impl.Result{Names: []string{"a", "g"}}},
		{toList("/a"), homeView, impl.Result{Names: []string{"b", "f"}}},
		{toList("/a/b"), homeView, done},
		{toSync("/"), homeView, done},
		{toSync("/a"), homeView, done},
		{toSync("/a/f"), homeView, done},
	} {
		checkAsked(t, homeGeo, homeView, c.a, c.after, c.r)
		if after, r := askedAsWritten(homeGeo, homeView, c.a); !equalViews(after, c.after) || !equalResults(r, c.r) {
			t.Errorf("the test itself has %#v and %#v for %#v", after, r, c.a)
		}
	}
	checkViewOk(t, homeGeo, homeView, true)
}

func TestAskedThatIsNotValid(t *testing.T) {
	for _, kind := range append(numbersOfNothing, 0, -1, 12, 13, 16, 17, 255) {
		for _, path := range []string{"/a/f", "/g", "/", "/none", "", "/abcdefgh", "//"} {
			checkRejected(t, homeGeo, homeView, impl.Ask{Kind: kind, Path: path, To: "/h"}, impl.ErAsk)
			checkRejected(t, homeGeo, impl.View{}, impl.Ask{Kind: kind, Path: path, Off: -1, Len: -1, Text: longText(201)}, impl.ErAsk)
		}
	}
	// A text that is too long counts for all kinds, ahead of all else.
	for _, kind := range allKinds {
		for _, path := range []string{"/", "/a", "/a/b", "/a/f", "/g", "/h", "/none/a", "/g/a", "", "//", "/abcdefgh"} {
			checkRejected(t, homeGeo, homeView, impl.Ask{Kind: kind, Path: path, To: "/h", Text: longText(201)}, impl.ErAsk)
			checkRejected(t, homeGeo, homeView, impl.Ask{Kind: kind, Path: path, To: "//", Off: -1, Len: -1, Text: longText(1000)}, impl.ErAsk)
			checkAskedAsWritten(t, homeGeo, homeView, impl.Ask{Kind: kind, Path: path, To: "/h", Text: longText(200)})
		}
	}
	checkRejected(t, homeGeo, homeView, impl.Ask{}, impl.ErAsk)
	checkRejected(t, impl.Geo{}, impl.View{}, impl.Ask{}, impl.ErAsk)
}

// The code of LookUp comes first for all operations on what is there, whatever else is wrong.
func TestAskedForWhatIsNotThere(t *testing.T) {
	for path, code := range map[string]int{
		"/h": impl.ErNone, "/h/a": impl.ErNone, "/a/h": impl.ErNone, "/a/b/h": impl.ErNone, "/a/h/f": impl.ErNone, "/g/a": impl.ErNotDir, "/a/f/a": impl.ErNotDir, "/g/a/b": impl.ErNotDir,
		"": impl.ErPath, "a": impl.ErPath, "//": impl.ErPath, "/a/": impl.ErPath, "/A": impl.ErPath, "/g/": impl.ErPath, "/g//a": impl.ErPath, "/abcdefgh": impl.ErName, "/g/abcdefgh": impl.ErName, "/h/abcdefgh/a": impl.ErName,
	} {
		for _, kind := range kindsLookingUp {
			for _, g := range []impl.Geo{homeGeo, {}, {Tenants: -1, Pages: -1, Inodes: -1, Quota: -1}} {
				checkRejected(t, g, homeView, toDo(kind, path), code)
				for _, to := range []string{"/h", "/a/h", "/", "//", "/abcdefgh", "/g/a", "/none/a", path, path + "/a"} {
					checkRejected(t, g, homeView, impl.Ask{Kind: kind, Path: path, To: to, Off: -1, Len: -1, Text: "x"}, code)
					checkRejected(t, g, homeView, impl.Ask{Kind: kind, Path: path, To: to, Off: 127, Len: 129, Text: longText(200)}, code)
				}
			}
		}
	}
}

func TestCreateAndMkdirOfEachCode(t *testing.T) {
	room := impl.Geo{Tenants: 2, Pages: 8, Inodes: 1000, Quota: 3}
	for _, kind := range []int{impl.OpCreate, impl.OpMkdir} {
		for path, code := range map[string]int{
			"": impl.ErPath, "h": impl.ErPath, "/a/": impl.ErPath, "/a//h": impl.ErPath, "/abcdefgh": impl.ErName, "/a/abcdefgh": impl.ErName,
			"/": impl.ErThere, "/a": impl.ErThere, "/a/b": impl.ErThere, "/a/f": impl.ErThere, "/g": impl.ErThere,
			"/h/a": impl.ErNone, "/a/h/a": impl.ErNone, "/g/a": impl.ErNotDir, "/a/f/a": impl.ErNotDir, "/g/a/h": impl.ErNotDir,
		} {
			checkRejected(t, homeGeo, homeView, toDo(kind, path), code)
			// It comes ahead of the limit of inodes.
			for _, g := range []impl.Geo{middleGeo, leastGeo, {}, {Tenants: 2, Pages: 8, Inodes: math.MinInt, Quota: 3}} {
				checkRejected(t, g, homeView, toDo(kind, path), code)
			}
		}
		v := crowdedView()
		for path, code := range map[string]int{"/d/x": impl.ErFull, "/e/x": impl.ErFull, "/d/0": impl.ErThere, "/f/x": impl.ErNotDir, "/x/y": impl.ErNone} {
			checkRejected(t, room, v, toDo(kind, path), code)
			checkRejected(t, greatestGeo, v, toDo(kind, path), code)
			checkRejected(t, leastGeo, v, toDo(kind, path), code)
		}
		for _, path := range []string{"/x", "/l/x", "/e/0/x"} {
			checkRejected(t, greatestGeo, v, toDo(kind, path), impl.ErInodes)
			checkAsked(t, room, v, toDo(kind, path), itemsWith(v, impl.Item{Path: path, Dir: kind == impl.OpMkdir}), impl.Result{})
		}
	}
}

// One inode is that of the root. No other field of the layout matters.
func TestCreateAndMkdirForEachNumberOfInodes(t *testing.T) {
	for count := range 6 {
		v := impl.View{}
		for i := range count {
			v.Items = append(v.Items, dirItem("/"+strconv.Itoa(i)))
		}
		for _, kind := range []int{impl.OpCreate, impl.OpMkdir} {
			x := impl.Item{Path: "/5a", Dir: kind == impl.OpMkdir}
			after := viewOf(append(slices.Clone(v.Items), x)...)
			for inodes := -3; inodes < 20; inodes++ {
				for _, g := range []impl.Geo{{Tenants: 2, Pages: 12, Inodes: inodes, Quota: 3}, {Inodes: inodes}, {Tenants: -1, Pages: math.MaxInt, Inodes: inodes, Quota: math.MinInt}} {
					if count < inodes-1 {
						checkAsked(t, g, v, toDo(kind, "/5a"), after, impl.Result{})
					} else {
						checkRejected(t, g, v, toDo(kind, "/5a"), impl.ErInodes)
					}
				}
			}
			for _, inodes := range numbersOfNothing {
				g := impl.Geo{Tenants: 2, Pages: 12, Inodes: inodes, Quota: 3}
				if inodes > 0 {
					checkAsked(t, g, v, toDo(kind, "/5a"), after, impl.Result{})
				} else {
					checkRejected(t, g, v, toDo(kind, "/5a"), impl.ErInodes)
				}
			}
		}
	}
}

func TestUnlinkAndRmdirOfEachCode(t *testing.T) {
	for path, code := range map[string]int{"/": impl.ErIsDir, "/a": impl.ErIsDir, "/a/b": impl.ErIsDir} {
		checkRejected(t, homeGeo, homeView, toUnlink(path), code)
	}
	for path, code := range map[string]int{"/": impl.ErRoot, "/a": impl.ErNotEmpty, "/a/f": impl.ErNotDir, "/g": impl.ErNotDir} {
		checkRejected(t, homeGeo, homeView, toRmdir(path), code)
	}
	checkRejected(t, homeGeo, impl.View{}, toRmdir("/"), impl.ErRoot)
	checkRejected(t, homeGeo, impl.View{}, toUnlink("/"), impl.ErIsDir)
	// Only children count, neither what is further down nor what begins with the same bytes.
	v := viewOf(dirItem("/a"), fileItem("/a/b/c", ""), dirItem("/aa"), fileItem("/aa/b", ""), fileItem("/c", ""), fileItem("/c/d", ""))
	checkAsked(t, homeGeo, v, toRmdir("/a"), viewOf(v.Items[1:]...), impl.Result{})
	checkRejected(t, homeGeo, v, toRmdir("/aa"), impl.ErNotEmpty)
	// A file with children is a file.
	checkRejected(t, homeGeo, v, toRmdir("/c"), impl.ErNotDir)
	checkAsked(t, homeGeo, v, toUnlink("/c"), itemsWithout(v, "/c"), impl.Result{})
	// A directory is emptied first.
	w, r := homeView, impl.Result{}
	for _, a := range []impl.Ask{toUnlink("/a/f"), toRmdir("/a/b"), toRmdir("/a"), toUnlink("/g")} {
		if w, r = impl.Asked(homeGeo, w, a); r.Code != 0 {
			t.Errorf("%#v: got %d", a, r.Code)
		}
	}
	checkView(t, w, impl.View{}, "all removed", homeView)
}

func TestRenameOfEachCode(t *testing.T) {
	for _, c := range []struct {
		path, to string
		code     int
	}{
		{"/", "/h", impl.ErRoot}, {"/", "/", impl.ErRoot}, {"/", "/a", impl.ErRoot}, {"/", "/h/a", impl.ErRoot}, {"/", "", impl.ErRoot}, {"/", "//", impl.ErRoot}, {"/", "/abcdefgh", impl.ErRoot},
		{"/a", "/a/h", impl.ErInside}, {"/a", "/a/b/h", impl.ErInside}, {"/a", "/a/b", impl.ErInside}, {"/a", "/a/f", impl.ErInside}, {"/a", "/a/f/h", impl.ErInside}, {"/a", "/a/h/h", impl.ErInside}, {"/a/b", "/a/b/b", impl.ErInside}, {"/g", "/g/h", impl.ErInside}, {"/a/f", "/a/f/h/h", impl.ErInside},
		{"/a", "", impl.ErPath}, {"/a", "//", impl.ErPath}, {"/a", "/a/", impl.ErPath}, {"/a", "/a//h", impl.ErPath}, {"/a", "/a/H", impl.ErPath}, {"/g", "g", impl.ErPath}, {"/a", "/abcdefgh", impl.ErName}, {"/a", "/a/abcdefgh", impl.ErName}, {"/g", "/a/f/abcdefgh", impl.ErName},
		{"/a", "/", impl.ErThere}, {"/g", "/", impl.ErThere}, {"/a", "/a", impl.ErThere}, {"/g", "/g", impl.ErThere}, {"/a/f", "/a/f", impl.ErThere}, {"/a/b", "/a/b", impl.ErThere}, {"/a", "/g", impl.ErThere}, {"/g", "/a", impl.ErThere}, {"/a/b", "/a", impl.ErThere}, {"/a/b", "/a/f", impl.ErThere}, {"/g", "/a/b", impl.ErThere}, {"/a/f", "/g", impl.ErThere},
		{"/a", "/h/a", impl.ErNone}, {"/g", "/a/h/g", impl.ErNone}, {"/a/b", "/h/b", impl.ErNone}, {"/a", "/g/a", impl.ErNotDir}, {"/g", "/a/f/g", impl.ErNotDir}, {"/a/b", "/a/f/b", impl.ErNotDir}, {"/a/b", "/g/h/b", impl.ErNotDir},
	} {
		for _, g := range []impl.Geo{homeGeo, leastGeo, {}} {
			checkRejected(t, g, homeView, toRename(c.path, c.to), c.code)
		}
	}
}

// A name that begins with that of a directory is not within it.
func TestRenameToASimilarName(t *testing.T) {
	checkAsked(t, homeGeo, homeView, toRename("/a", "/ab"), viewOf(dirItem("/ab"), dirItem("/ab/b"), fileItem("/ab/f", "hello"), fileItem("/g", longText(33))), impl.Result{})
	checkAsked(t, homeGeo, homeView, toRename("/a/b", "/a/bb"), viewOf(dirItem("/a"), dirItem("/a/bb"), fileItem("/a/f", "hello"), fileItem("/g", longText(33))), impl.Result{})
	v := viewOf(dirItem("/ab"), fileItem("/ab/c", "x"))
	checkAsked(t, homeGeo, v, toRename("/ab", "/a"), viewOf(dirItem("/a"), fileItem("/a/c", "x")), impl.Result{})
}

// What is renamed takes no more inodes and pages than before.
func TestRenameInAFullLayout(t *testing.T) {
	g := impl.Geo{Tenants: 2, Pages: 8, Inodes: 5, Quota: 3}
	checkViewOk(t, g, homeView, true)
	checkRejected(t, g, homeView, toCreate("/h"), impl.ErInodes)
	checkAsked(t, g, homeView, toRename("/g", "/a/b/h"), viewOf(dirItem("/a"), dirItem("/a/b"), fileItem("/a/b/h", longText(33)), fileItem("/a/f", "hello")), impl.Result{})
	checkAsked(t, g, homeView, toRename("/a", "/h"), viewOf(fileItem("/g", longText(33)), dirItem("/h"), dirItem("/h/b"), fileItem("/h/f", "hello")), impl.Result{})
}

func TestRenameInFullDirectories(t *testing.T) {
	v := crowdedView()
	for _, c := range []struct {
		path, to string
		code     int
	}{
		// Within a full directory nothing is added.
		{"/d/0", "/d/x", 0}, {"/d/5", "/d/a", 0}, {"/e/0", "/e/x", 0}, {"/e/8", "/e/a", 0}, {"/l/0", "/l/x", 0},
		{"/d/0", "/e/x", impl.ErFull}, {"/e/0", "/d/x", impl.ErFull}, {"/f", "/d/x", impl.ErFull}, {"/f", "/e/x", impl.ErFull}, {"/l/0", "/d/x", impl.ErFull}, {"/l", "/d/x", impl.ErFull}, {"/l", "/e/l", impl.ErFull}, {"/d", "/e/x", impl.ErFull}, {"/e", "/d/x", impl.ErFull},
		// Out of it, and to where there is room.
		{"/d/0", "/x", 0}, {"/d/0", "/l/x", 0}, {"/e/0", "/e/1/x", 0}, {"/d", "/x", 0}, {"/d", "/l/x", 0}, {"/e", "/l/x", 0}, {"/f", "/l/x", 0}, {"/l/0", "/x", 0},
		// What is wrong with the other path comes first.
		{"/d/0", "/d/1", impl.ErThere}, {"/d/0", "/d/0", impl.ErThere}, {"/d/0", "/e/1", impl.ErThere}, {"/d", "/d/x", impl.ErInside}, {"/d/0", "/d/0/x", impl.ErInside}, {"/d/0", "/d/1/x", impl.ErNotDir}, {"/d/0", "/d/x/y", impl.ErNone}, {"/d/0", "/d/X", impl.ErPath}, {"/d/0", "/d/abcdefgh", impl.ErName}, {"/d/x", "/e/x", impl.ErNone}, {"/d/x", "/d/y", impl.ErNone}, {"/", "/d/x", impl.ErRoot},
	} {
		after := v
		if c.code == 0 {
			after = itemsMoved(v, c.path, c.to)
		}
		for _, g := range []impl.Geo{greatestGeo, leastGeo, {}} {
			checkAsked(t, g, v, toRename(c.path, c.to), after, rejected(c.code))
		}
	}
	root := viewOf(dirItem("/d"), fileItem("/d/x", "text"))
	for i := range 5 {
		root.Items = append(root.Items, fileItem("/f"+strconv.Itoa(i), ""))
	}
	checkAsked(t, greatestGeo, root, toRename("/f0", "/g"), itemsMoved(root, "/f0", "/g"), impl.Result{})
	checkAsked(t, greatestGeo, root, toRename("/d", "/g"), itemsMoved(root, "/d", "/g"), impl.Result{})
	checkRejected(t, greatestGeo, root, toRename("/d/x", "/x"), impl.ErFull)
}

// A directory with as much within it as there may be, at the greatest depth and with the longest names.
func TestRenameOfDirectoriesWithContents(t *testing.T) {
	from, to := viewOf(), viewOf()
	for i := range 5 {
		from.Items = append(from.Items, dirItem("/a"+strings.Repeat("/abcdefg", i)))
		to.Items = append(to.Items, dirItem("/zzzzzzz"+strings.Repeat("/abcdefg", i)))
	}
	checkViewOk(t, greatestGeo, from, true)
	checkAsked(t, greatestGeo, from, toRename("/a", "/zzzzzzz"), to, impl.Result{})
	checkAsked(t, greatestGeo, to, toRename("/zzzzzzz", "/a"), from, impl.Result{})
	v := viewOf(dirItem("/a"), dirItem("/a/b"), fileItem("/a/b/f", "text"), fileItem("/a/z", ""), dirItem("/m"))
	checkAsked(t, greatestGeo, v, toRename("/a", "/m/a"), viewOf(dirItem("/m"), dirItem("/m/a"), dirItem("/m/a/b"), fileItem("/m/a/b/f", "text"), fileItem("/m/a/z", "")), impl.Result{})
	checkAsked(t, greatestGeo, v, toRename("/a/b", "/m/c"), viewOf(dirItem("/a"), fileItem("/a/z", ""), dirItem("/m"), dirItem("/m/c"), fileItem("/m/c/f", "text")), impl.Result{})
	checkAsked(t, greatestGeo, v, toRename("/m", "/a/b/m"), viewOf(dirItem("/a"), dirItem("/a/b"), fileItem("/a/b/f", "text"), dirItem("/a/b/m"), fileItem("/a/z", "")), impl.Result{})
}

func TestReadOfEachPart(t *testing.T) {
	for _, c := range []struct {
		off, length int
		want        string
	}{
		{0, 0, ""}, {0, 1, "h"}, {0, 4, "hell"}, {0, 5, "hello"}, {0, 6, "hello"}, {0, 1000, "hello"}, {0, math.MaxInt, "hello"}, {1, math.MaxInt, "ello"}, {1, math.MaxInt - 1, "ello"}, {4, math.MaxInt, "o"},
		{2, 0, ""}, {2, 1, "l"}, {2, 3, "llo"}, {2, 4, "llo"}, {4, 1, "o"}, {4, 2, "o"}, {5, 0, ""}, {5, 1, ""}, {5, math.MaxInt, ""}, {6, 1, ""}, {6, math.MaxInt, ""}, {128, 1, ""}, {129, 1, ""}, {1 << 32, 1, ""}, {math.MaxInt, 0, ""}, {math.MaxInt, 1, ""}, {math.MaxInt, math.MaxInt, ""}, {math.MaxInt - 1, 5, ""},
	} {
		checkAsked(t, homeGeo, homeView, toRead("/a/f", c.off, c.length), homeView, impl.Result{Text: c.want})
	}
	for _, n := range []int{-1, -2, -5, -128, math.MinInt, math.MinInt + 1, math.MinInt + 5} {
		for _, other := range []int{0, 1, 5, 6, 200, math.MaxInt, -1, math.MinInt} {
			checkRejected(t, homeGeo, homeView, toRead("/a/f", n, other), impl.ErRange)
			checkRejected(t, homeGeo, homeView, toRead("/a/f", other, n), impl.ErRange)
			// A directory is ahead of a number that is out of range.
			for _, path := range []string{"/", "/a", "/a/b"} {
				checkRejected(t, homeGeo, homeView, toRead(path, n, other), impl.ErIsDir)
			}
		}
	}
	for _, path := range []string{"/", "/a", "/a/b"} {
		checkRejected(t, homeGeo, homeView, toRead(path, 0, 5), impl.ErIsDir)
	}
	// A file that is too long can be read, and so can one of any bytes.
	text := longText(300)
	v := viewOf(fileItem("/x", text), fileItem("/y", "\x00\xff\x00"), fileItem("/z", ""))
	checkAsked(t, homeGeo, v, toRead("/x", 100, 150), v, impl.Result{Text: text[100:250]})
	checkAsked(t, homeGeo, v, toRead("/x", 0, math.MaxInt), v, impl.Result{Text: text})
	checkAsked(t, homeGeo, v, toRead("/y", 0, 2), v, impl.Result{Text: "\x00\xff"})
	checkAsked(t, homeGeo, v, toRead("/z", 0, 10), v, impl.Result{})
	for off := range 10 {
		for length := range 10 {
			checkAskedAsWritten(t, homeGeo, homeView, toRead("/a/f", off, length))
		}
	}
}

func TestWriteOfEachRange(t *testing.T) {
	roomy := impl.Geo{Tenants: 2, Pages: 12, Inodes: 6, Quota: 8}
	for _, old := range []int{0, 1, 5, 127, 128} {
		v := viewOf(dirItem("/a"), fileItem("/a/f", longText(old)))
		for _, length := range []int{0, 1, 2, 27, 28, 127, 128, 129, 200} {
			text := strings.Repeat("#", length)
			for _, off := range []int{-1, -length, 0, 1, 100, 126, 127, 128, 129, 128 - length, 129 - length, 127 - length, 1 << 32, math.MinInt, math.MaxInt, math.MaxInt - 127, math.MaxInt - length, math.MaxInt - length + 1} {
				a := toWrite("/a/f", off, text)
				if off < 0 || off > 128-length {
					checkRejected(t, roomy, v, a, impl.ErRange)
				} else {
					checkAsked(t, roomy, v, a, viewOf(dirItem("/a"), fileItem("/a/f", overwritten(longText(old), off, text))), impl.Result{Size: length})
				}
				// A directory is ahead of a number that is out of range, and that ahead of the quota.
				checkRejected(t, roomy, v, toWrite("/a", off, text), impl.ErIsDir)
				checkRejected(t, roomy, v, toWrite("/", off, text), impl.ErIsDir)
				none := impl.Geo{Tenants: 2, Pages: 12, Inodes: 6, Quota: -1}
				checkRejected(t, none, v, a, firstCode(codeIf(off < 0 || off > 128-length, impl.ErRange), impl.ErQuota))
				checkRejected(t, none, v, toWrite("/a", off, text), impl.ErIsDir)
			}
		}
	}
}

func TestTruncateToEachLength(t *testing.T) {
	roomy := impl.Geo{Tenants: 2, Pages: 12, Inodes: 6, Quota: 8}
	none := impl.Geo{Tenants: 2, Pages: 12, Inodes: 6, Quota: -1}
	for _, old := range []int{0, 1, 5, 32, 127, 128} {
		v := viewOf(dirItem("/a"), fileItem("/a/f", longText(old)))
		lengths := slices.Clone(numbersOfNothing)
		for length := -2; length < 140; length++ {
			lengths = append(lengths, length)
		}
		for _, length := range lengths {
			a := toTruncate("/a/f", length)
			isOut := length < 0 || length > 128
			if isOut {
				checkRejected(t, roomy, v, a, impl.ErRange)
			} else {
				checkAsked(t, roomy, v, a, viewOf(dirItem("/a"), fileItem("/a/f", cutAsWritten(longText(old), length))), impl.Result{})
			}
			checkRejected(t, roomy, v, toTruncate("/a", length), impl.ErIsDir)
			checkRejected(t, roomy, v, toTruncate("/", length), impl.ErIsDir)
			checkRejected(t, none, v, a, firstCode(codeIf(isOut, impl.ErRange), impl.ErQuota))
			checkRejected(t, none, v, toTruncate("/a", length), impl.ErIsDir)
		}
	}
}

// One file has two pages, the other one, and the quota is three pages.
func TestWriteAndTruncateAtTheQuota(t *testing.T) {
	first, second := longText(64), "x"
	v := viewOf(fileItem("/a", first), fileItem("/b", second), dirItem("/c"))
	checkViewOk(t, middleGeo, v, true)
	for _, c := range []struct {
		a    impl.Ask
		code int
	}{
		{toWrite("/b", 0, longText(32)), 0}, {toWrite("/b", 0, longText(33)), impl.ErQuota}, {toWrite("/b", 31, "x"), 0}, {toWrite("/b", 31, "xy"), impl.ErQuota}, {toWrite("/b", 32, "x"), impl.ErQuota}, {toWrite("/b", 32, ""), 0}, {toWrite("/b", 128, ""), 0}, {toWrite("/b", 127, "x"), impl.ErQuota}, {toWrite("/b", 128, "x"), impl.ErRange}, {toWrite("/b", 0, longText(128)), impl.ErQuota}, {toWrite("/b", 0, longText(129)), impl.ErRange},
		{toWrite("/a", 0, longText(64)), 0}, {toWrite("/a", 63, "x"), 0}, {toWrite("/a", 64, "x"), impl.ErQuota}, {toWrite("/a", 63, "xy"), impl.ErQuota}, {toWrite("/a", 0, longText(65)), impl.ErQuota}, {toWrite("/a", 0, ""), 0}, {toWrite("/a", -1, "x"), impl.ErRange}, {toWrite("/c", 64, "x"), impl.ErIsDir}, {toWrite("/d", 64, "x"), impl.ErNone},
		{toTruncate("/b", 32), 0}, {toTruncate("/b", 33), impl.ErQuota}, {toTruncate("/b", 128), impl.ErQuota}, {toTruncate("/b", 129), impl.ErRange}, {toTruncate("/b", 0), 0}, {toTruncate("/a", 64), 0}, {toTruncate("/a", 65), impl.ErQuota}, {toTruncate("/a", 63), 0}, {toTruncate("/a", 32), 0}, {toTruncate("/a", 0), 0}, {toTruncate("/a", -1), impl.ErRange}, {toTruncate("/c", 33), impl.ErIsDir}, {toTruncate("/d", 33), impl.ErNone},
	} {
		if code := checkAskedAsWritten(t, middleGeo, v, c.a); code != c.code {
			t.Errorf("%#v: got %d, want %d", c.a, code, c.code)
		}
	}
	// What one file gives up, the other one may take.
	w, _ := impl.Asked(middleGeo, v, toTruncate("/a", 32))
	w, r := impl.Asked(middleGeo, w, toWrite("/b", 0, longText(33)))
	checkView(t, w, viewOf(fileItem("/a", first[:32]), fileItem("/b", longText(33)), dirItem("/c")), "OpWrite", v, r)
	for quota := -1; quota < 12; quota++ {
		g := impl.Geo{Tenants: 2, Pages: 12, Inodes: 6, Quota: quota}
		for length := range 129 {
			checkAskedAsWritten(t, g, v, toTruncate("/b", length))
			checkAskedAsWritten(t, g, v, toWrite("/b", 0, longText(length)))
		}
	}
}

// Above the quota, as no valid view is, all that counts is how many pages there would be.
func TestWriteAndTruncateAboveTheQuota(t *testing.T) {
	v := viewOf(fileItem("/a", longText(128)), fileItem("/b", "x"))
	for _, c := range []struct {
		a    impl.Ask
		code int
	}{
		{toTruncate("/a", 128), impl.ErQuota}, {toTruncate("/a", 65), impl.ErQuota}, {toTruncate("/a", 64), 0}, {toTruncate("/a", 0), 0}, {toTruncate("/b", 0), impl.ErQuota}, {toTruncate("/b", 1), impl.ErQuota}, {toWrite("/a", 0, "x"), impl.ErQuota}, {toWrite("/a", 0, ""), impl.ErQuota}, {toWrite("/b", 5, ""), impl.ErQuota}, {toWrite("/b", 128, "x"), impl.ErRange}, {toTruncate("/b", 129), impl.ErRange},
	} {
		if code := checkAskedAsWritten(t, middleGeo, v, c.a); code != c.code {
			t.Errorf("%#v: got %d, want %d", c.a, code, c.code)
		}
	}
	// All other operations have no regard for the quota.
	for _, a := range []impl.Ask{toCreate("/c"), toMkdir("/c"), toUnlink("/b"), toRename("/a", "/c"), toRead("/a", 0, 128), toStat("/a"), toList("/"), toSync("/b")} {
		if code := checkAskedAsWritten(t, middleGeo, v, a); code != 0 {
			t.Errorf("%#v: got %d", a, code)
		}
	}
	for _, quota := range append(numbersOfNothing, 0) {
		g := impl.Geo{Tenants: 2, Pages: 12, Inodes: 6, Quota: quota}
		checkAskedAsWritten(t, g, v, toWrite("/b", 0, longText(128)))
		checkAskedAsWritten(t, g, v, toTruncate("/b", 128))
		checkAskedAsWritten(t, g, viewOf(fileItem("/a", "")), toTruncate("/a", 0))
	}
	// A file that is too long stays as it is, whatever is written.
	long := viewOf(fileItem("/a", longText(129)))
	checkAsked(t, greatestGeo, long, toWrite("/a", 0, "xyz"), long, impl.Result{Size: 3})
	checkAsked(t, greatestGeo, long, toTruncate("/a", 128), viewOf(fileItem("/a", longText(129)[:128])), impl.Result{})
}

func TestStatListAndSyncOfEachCode(t *testing.T) {
	for _, path := range []string{"/a/f", "/g"} {
		checkRejected(t, homeGeo, homeView, toList(path), impl.ErNotDir)
	}
	for length := range 130 {
		v := viewOf(fileItem("/a", longText(length)))
		checkAsked(t, homeGeo, v, toStat("/a"), v, impl.Result{Size: length})
	}
	for _, v := range []impl.View{{}, viewOf(dirItem("/a")), crowdedView()} {
		checkAsked(t, homeGeo, v, toStat("/"), v, impl.Result{Dir: true})
		checkAsked(t, homeGeo, v, toList("/"), v, impl.Result{Names: kidsIn(v, "/")})
		checkAsked(t, homeGeo, v, toSync("/"), v, impl.Result{})
	}
	// A directory has no size, also where it has a text.
	v := viewOf(impl.Item{Path: "/a", Dir: true, Text: "text"}, fileItem("/a/z", ""), fileItem("/a/b", ""))
	checkAsked(t, homeGeo, v, toStat("/a"), v, impl.Result{Dir: true})
	checkAsked(t, homeGeo, v, toList("/a"), v, impl.Result{Names: []string{"z", "b"}})
	for _, kind := range []int{impl.OpUnlink, impl.OpRead, impl.OpWrite, impl.OpTruncate} {
		checkRejected(t, homeGeo, v, toDo(kind, "/a"), impl.ErIsDir)
	}
}

// The root is a directory, also if the view has an item with that Path.
func TestAskedForTheRoot(t *testing.T) {
	codes := map[int]int{
		impl.OpCreate: impl.ErThere, impl.OpMkdir: impl.ErThere, impl.OpUnlink: impl.ErIsDir, impl.OpRmdir: impl.ErRoot, impl.OpRename: impl.ErRoot, impl.OpRead: impl.ErIsDir, impl.OpWrite: impl.ErIsDir, impl.OpTruncate: impl.ErIsDir,
	}
	views := []impl.View{{}, homeView}
	for _, root := range []impl.Item{dirItem("/"), fileItem("/", ""), fileItem("/", "text"), {Path: "/", Dir: true, Text: "text"}} {
		views = append(views, viewOf(root), viewOf(append([]impl.Item{root}, homeView.Items...)...), viewOf(root, root))
	}
	for _, v := range views {
		for kind, code := range codes {
			for _, g := range []impl.Geo{homeGeo, leastGeo, {}} {
				checkRejected(t, g, v, toDo(kind, "/"), code)
				checkRejected(t, g, v, impl.Ask{Kind: kind, Path: "/", To: "/h", Off: -1, Len: -1, Text: "x"}, code)
				checkRejected(t, g, v, impl.Ask{Kind: kind, Path: "/", To: "/", Off: 128, Len: 129, Text: longText(200)}, code)
			}
		}
		checkAsked(t, homeGeo, v, toStat("/"), v, impl.Result{Dir: true})
		checkAsked(t, homeGeo, v, toList("/"), v, impl.Result{Names: kidsIn(v, "/")})
		checkAsked(t, homeGeo, v, toSync("/"), v, impl.Result{})
		checkAskedAsWritten(t, homeGeo, v, toCreate("/z"))
	}
	v := viewOf(fileItem("/", "text"), fileItem("/a", "x"), dirItem("/d"))
	checkRejected(t, homeGeo, v, toRename("/a", "/"), impl.ErThere)
	checkAsked(t, homeGeo, v, toRename("/a", "/b"), viewOf(fileItem("/", "text"), fileItem("/b", "x"), dirItem("/d")), impl.Result{})
	checkAsked(t, homeGeo, v, toWrite("/a", 0, "y"), viewOf(fileItem("/", "text"), fileItem("/a", "y"), dirItem("/d")), impl.Result{Size: 1})
	checkAsked(t, homeGeo, v, toList("/"), v, impl.Result{Names: []string{"a", "d"}})
}

// Several errors at once: the first one in the order of the specification counts.
func TestAskedWithSeveralErrors(t *testing.T) {
	full := impl.Geo{Tenants: 2, Pages: 8, Inodes: 5, Quota: 3}
	checkViewOk(t, full, homeView, true)
	for _, c := range []struct {
		a    impl.Ask
		code int
	}{
		{impl.Ask{Kind: 0, Path: "//", To: "//", Off: -1, Len: -1}, impl.ErAsk}, {impl.Ask{Kind: 12, Path: "/none"}, impl.ErAsk}, {toWrite("//", -1, longText(201)), impl.ErAsk}, {toWrite("/g", 0, longText(201)), impl.ErAsk}, {impl.Ask{Kind: impl.OpMkdir, Path: "/a", Text: longText(201)}, impl.ErAsk},
		{toRead("/h", -1, 5), impl.ErNone}, {toRead("/h", 0, -1), impl.ErNone}, {toRead("/g/h", -1, -1), impl.ErNotDir}, {toRead("/g/", -1, -1), impl.ErPath}, {toRead("/abcdefgh", -1, -1), impl.ErName}, {toRead("/a", -1, 5), impl.ErIsDir}, {toRead("/", 0, -1), impl.ErIsDir},
		{toWrite("/h", -1, "x"), impl.ErNone}, {toWrite("/h", 0, longText(200)), impl.ErNone}, {toWrite("/a/f/h", 129, "x"), impl.ErNotDir}, {toWrite("/a", 129, "x"), impl.ErIsDir}, {toWrite("/", -1, "x"), impl.ErIsDir}, {toWrite("/g", 129, "x"), impl.ErRange}, {toWrite("/g", 0, longText(129)), impl.ErRange}, {toWrite("/g", 65, longText(64)), impl.ErRange}, {toWrite("/g", 64, longText(64)), impl.ErQuota},
		{toTruncate("/h", -1), impl.ErNone}, {toTruncate("/h", 129), impl.ErNone}, {toTruncate("/g/h", -1), impl.ErNotDir}, {toTruncate("/a/b", 129), impl.ErIsDir}, {toTruncate("/", -1), impl.ErIsDir}, {toTruncate("/g", 129), impl.ErRange}, {toTruncate("/g", 128), impl.ErQuota},
		{toCreate("/a/"), impl.ErPath}, {toCreate("/abcdefgh"), impl.ErName}, {toCreate("/"), impl.ErThere}, {toCreate("/h/h"), impl.ErNone}, {toCreate("/g/h"), impl.ErNotDir}, {toCreate("/g"), impl.ErThere}, {toCreate("/h"), impl.ErInodes},
		{toMkdir("//"), impl.ErPath}, {toMkdir("/g/abcdefgh"), impl.ErName}, {toMkdir("/a"), impl.ErThere}, {toMkdir("/a/h/h"), impl.ErNone}, {toMkdir("/a/f/h"), impl.ErNotDir}, {toMkdir("/a/h"), impl.ErInodes},
		{toRmdir("/"), impl.ErRoot}, {toRmdir("/a"), impl.ErNotEmpty}, {toRmdir("/g"), impl.ErNotDir}, {toRmdir("/g/h"), impl.ErNotDir}, {toUnlink("/a"), impl.ErIsDir}, {toUnlink("/"), impl.ErIsDir},
		{toRename("/h", "//"), impl.ErNone}, {toRename("/h", "/h/h"), impl.ErNone}, {toRename("/h", "/h"), impl.ErNone}, {toRename("/h", "/g"), impl.ErNone}, {toRename("//", "/abcdefgh"), impl.ErPath}, {toRename("/abcdefgh", "//"), impl.ErName}, {toRename("/", "//"), impl.ErRoot}, {toRename("/", "/a"), impl.ErRoot}, {toRename("/a", "/a/f/h"), impl.ErInside}, {toRename("/a", "/a/h/h"), impl.ErInside}, {toRename("/g", "/g/h"), impl.ErInside}, {toRename("/a", "/a/abcdefgh"), impl.ErName},
	} {
		checkRejected(t, full, homeView, c.a, c.code)
		if _, r := askedAsWritten(full, homeView, c.a); r.Code != c.code {
			t.Errorf("the test itself has %d for %#v", r.Code, c.a)
		}
	}
	// A full directory is ahead of the limit of inodes, and what is there already is ahead of both.
	for _, kind := range []int{impl.OpCreate, impl.OpMkdir} {
		checkRejected(t, full, crowdedView(), toDo(kind, "/d/x"), impl.ErFull)
		checkRejected(t, full, crowdedView(), toDo(kind, "/d/0"), impl.ErThere)
		checkRejected(t, full, crowdedView(), toDo(kind, "/l/x"), impl.ErInodes)
	}
}

// An item with an invalid path is there, though it can't be created.
func TestAskedForInvalidPathsThatItemsHave(t *testing.T) {
	paths := []string{"/A", "", "//", "/a/", "/abcdefgh", "a", "/a//b", "\xff", strings.Repeat("/a", 31)}
	for _, path := range paths {
		code := writtenCode(path)
		other := dirItem("/a")
		file, folder := itemsWith(viewOf(other), fileItem(path, "text")), itemsWith(viewOf(other), dirItem(path))
		for _, v := range []impl.View{file, folder} {
			checkRejected(t, homeGeo, v, toCreate(path), code)
			checkRejected(t, homeGeo, v, toMkdir(path), code)
			checkRejected(t, homeGeo, v, toRename("/a", path), code)
			checkRejected(t, homeGeo, v, toRename(path, path), code)
			checkAsked(t, homeGeo, v, toSync(path), v, impl.Result{})
			checkAsked(t, homeGeo, v, toRename(path, "/b"), itemsMoved(v, path, "/b"), impl.Result{})
			checkAsked(t, homeGeo, v, toRename(path, "/a/b"), itemsMoved(v, path, "/a/b"), impl.Result{})
		}
		checkAsked(t, homeGeo, file, toUnlink(path), viewOf(other), impl.Result{})
		checkRejected(t, homeGeo, file, toRmdir(path), impl.ErNotDir)
		checkAsked(t, homeGeo, file, toRead(path, 1, 2), file, impl.Result{Text: "ex"})
		checkAsked(t, homeGeo, file, toWrite(path, 4, "s"), itemsWith(viewOf(other), fileItem(path, "texts")), impl.Result{Size: 1})
		checkAsked(t, homeGeo, file, toTruncate(path, 1), itemsWith(viewOf(other), fileItem(path, "t")), impl.Result{})
		checkAsked(t, homeGeo, file, toStat(path), file, impl.Result{Size: 4})
		checkRejected(t, homeGeo, file, toList(path), impl.ErNotDir)
		checkRejected(t, homeGeo, folder, toUnlink(path), impl.ErIsDir)
		checkAsked(t, homeGeo, folder, toRmdir(path), viewOf(other), impl.Result{})
		checkAsked(t, homeGeo, folder, toStat(path), folder, impl.Result{Dir: true})
		checkAsked(t, homeGeo, folder, toList(path), folder, impl.Result{})
		checkRejected(t, homeGeo, folder, toRead(path, 0, 1), impl.ErIsDir)
	}
}

// manyAsks are operations of all kinds on each of the paths, with success and with each error.
func manyAsks(paths []string) []impl.Ask {
	asks := []impl.Ask{}
	for _, path := range paths {
		for _, kind := range allKinds {
			asks = append(asks, toDo(kind, path))
		}
		for _, to := range paths {
			asks = append(asks, toRename(path, to))
		}
		asks = append(asks, toRead(path, 1, 2), toRead(path, 0, math.MaxInt), toRead(path, -1, 1), toRead(path, 1, -1), toWrite(path, 1, "new"), toWrite(path, 31, "new"), toWrite(path, 0, longText(65)), toWrite(path, -1, "new"), toWrite(path, 126, "new"))
		asks = append(asks, toTruncate(path, 1), toTruncate(path, 40), toTruncate(path, 128), toTruncate(path, -1), toTruncate(path, 129), impl.Ask{Kind: 12, Path: path})
	}
	return asks
}

// On each of four paths there is nothing, a directory or a file, so that an item may have no parent.
func TestAskedForEveryChoiceOfItems(t *testing.T) {
	paths := []string{"/a", "/a/b", "/a/b/c", "/b"}
	asks := manyAsks(append(paths, "/", "/c", "/b/c", "/a/c/d", "/a/", "/abcdefgh"))
	found := map[int]int{}
	everyList([]int{0, 1, 2}, 4, func(list []int) {
		v := impl.View{}
		for i, what := range list {
			switch what {
			case 1:
				v.Items = append(v.Items, dirItem(paths[i]))
			case 2:
				v.Items = append(v.Items, fileItem(paths[i], "text"))
			}
		}
		if len(list) < 4 {
			return
		}
		for _, path := range paths {
			for _, near := range []string{path, path + "/d", path + "/d/e"} {
				checkLookUp(t, v, near, lookedUpAsWritten(v, near))
				checkPlaceFor(t, v, near, placeAsWritten(v, near))
			}
		}
		for _, g := range []impl.Geo{leastGeo, middleGeo, greatestGeo} {
			for _, a := range asks {
				found[checkAskedAsWritten(t, g, v, a)]++
			}
		}
	})
	for code := range 17 {
		// No directory is full here, and two codes are of other chapters.
		if isMissing := found[code] == 0; isMissing != slices.Contains([]int{impl.ErFull, impl.ErBusy, impl.ErTenant}, code) {
			t.Errorf("the code %d came up %d times", code, found[code])
		}
	}
}

func TestAskedOfValidViews(t *testing.T) {
	for _, c := range validViews(1, sampleGeos()) {
		paths := append(pathsOf(c.v), "/", "/none", "/0/a")
		for _, path := range pathsOf(c.v) {
			paths = append(paths, path+"/n0")
		}
		for _, a := range manyAsks(paths) {
			checkAskedAsWritten(t, c.g, c.v, a)
		}
		for _, path := range pathsNear(pathsOf(c.v)) {
			checkLookUp(t, c.v, path, lookedUpAsWritten(c.v, path))
			checkPlaceFor(t, c.v, path, placeAsWritten(c.v, path))
		}
	}
}

// In a view that is out of order, or has a Path twice, the first item with a Path is the one that is there.
func TestAskedOfChangedViews(t *testing.T) {
	source := rand.New(rand.NewSource(76))
	for _, c := range validViews(6, sampleGeos()) {
		v := viewCopy(c.v)
		for range 1 + source.Intn(3) {
			changeView(source, &c.g, &v)
		}
		paths := append(pathsOf(v), "/", "/none", "/a/b")
		for range 60 {
			checkAskedAsWritten(t, c.g, v, randomAsk(source, paths))
		}
	}
}

func randomAsk(source *rand.Rand, paths []string) impl.Ask {
	path := func() string {
		one := paths[source.Intn(len(paths))]
		if source.Intn(3) == 0 {
			one = strings.TrimSuffix(one, "/") + "/" + string("abc0"[source.Intn(4)])
		}
		return one
	}
	lengths := []int{0, 0, 1, 2, 5, 31, 32, 33, 64, 65, 100, 127, 128, 129, -1}
	return impl.Ask{
		Kind: 1 + source.Intn(11), Path: path(), To: path(),
		Off: lengths[source.Intn(len(lengths))], Len: lengths[source.Intn(len(lengths))],
		Text: randomText(source, max(lengths[source.Intn(len(lengths))], 0)),
	}
}

// From an empty view on, each operation has the view that the ones before it have left.
func TestAskedOneAfterAnother(t *testing.T) {
	source := rand.New(rand.NewSource(78))
	found := map[int]int{}
	for round, g := range slices.Repeat(sampleGeos(), 3) {
		v := impl.View{}
		for range 150 {
			a := randomAsk(source, append(pathsOf(v), "/", "/", "/d"))
			if round%3 > 0 && source.Intn(3) == 0 {
				a.Kind = impl.OpCreate + source.Intn(2)
			}
			code := checkAskedAsWritten(t, g, v, a)
			found[code]++
			v, _ = impl.Asked(g, v, a)
			if faults := viewFaults(g, v); len(faults) > 0 {
				t.Fatalf("%q after %#v: %#v", faults, a, v)
			}
		}
	}
	for _, code := range []int{0, impl.ErNone, impl.ErNotDir, impl.ErIsDir, impl.ErThere, impl.ErInodes, impl.ErRoot, impl.ErNotEmpty, impl.ErInside, impl.ErRange, impl.ErQuota} {
		if found[code] < 10 {
			t.Errorf("the code %d came up %d times", code, found[code])
		}
	}
}

// What has been written is what is read, and all that is created is listed, found and can be removed.
func TestAskedAsAStory(t *testing.T) {
	v, r := impl.View{}, impl.Result{}
	ask := func(a impl.Ask, want impl.Result) {
		t.Helper()
		before := v
		if v, r = impl.Asked(greatestGeo, v, a); !equalResults(r, want) {
			t.Errorf("%#v of %#v: got %#v, want %#v", a, before, r, want)
		}
		checkViewOk(t, greatestGeo, v, true)
	}
	done := impl.Result{}
	ask(toMkdir("/docs"), done)
	ask(toCreate("/docs/one"), done)
	ask(toWrite("/docs/one", 0, "first text"), impl.Result{Size: 10})
	ask(toWrite("/docs/one", 6, "words"), impl.Result{Size: 5})
	ask(toRead("/docs/one", 0, 100), impl.Result{Text: "first words"})
	ask(toMkdir("/docs/old"), done)
	ask(toRename("/docs/one", "/docs/old/two"), done)
	ask(toRead("/docs/one", 0, 100), rejected(impl.ErNone))
	ask(toStat("/docs/old/two"), impl.Result{Size: 11})
	ask(toRename("/docs", "/docs/old/docs"), rejected(impl.ErInside))
	ask(toRename("/docs/old", "/new"), done)
	ask(toList("/"), impl.Result{Names: []string{"docs", "new"}})
	ask(toList("/new"), impl.Result{Names: []string{"two"}})
	ask(toRmdir("/new"), rejected(impl.ErNotEmpty))
	ask(toTruncate("/new/two", 5), done)
	ask(toRead("/new/two", 0, 100), impl.Result{Text: "first"})
	ask(toTruncate("/new/two", 6), done)
	ask(toRead("/new/two", 4, 100), impl.Result{Text: "t\x00"})
	ask(toUnlink("/new"), rejected(impl.ErIsDir))
	ask(toUnlink("/new/two"), done)
	ask(toUnlink("/new/two"), rejected(impl.ErNone))
	ask(toRmdir("/new"), done)
	ask(toRmdir("/docs"), done)
	ask(toSync("/docs"), rejected(impl.ErNone))
	ask(toSync("/"), done)
	checkView(t, v, impl.View{}, "the whole story", v)
}

// What comes up again is treated as before.
func TestAsksOfLaterCalls(t *testing.T) {
	asks := manyAsks([]string{"/a", "/a/f", "/g", "/", "/h", "//"})
	for range 5 {
		for _, a := range asks {
			checkAskedAsWritten(t, homeGeo, homeView, a)
			checkAskedAsWritten(t, leastGeo, impl.View{}, a)
			checkLookUp(t, homeView, a.Path, lookedUpAsWritten(homeView, a.Path))
			checkPlaceFor(t, homeView, a.Path, placeAsWritten(homeView, a.Path))
		}
		checkTextWith(t, "abc", 1, "xyz", "axyz")
		checkTextCut(t, "abc", 4, "abc\x00")
		checkAskOk(t, toSync("/"), true)
	}
}

func TestViewsOfAsksAreLeftAsTheyAre(t *testing.T) {
	for _, v := range append(someViews(), homeView) {
		items, whole := amongOthers(v.Items, impl.Item{Path: "/a", Text: "none"})
		given, before := impl.View{Items: items}, slices.Clone(whole)
		for _, a := range manyAsks(append(pathsOf(v), "/", "/h")) {
			one, r := impl.Asked(homeGeo, given, a)
			two, s := impl.Asked(homeGeo, given, a)
			alone, q := askedAsWritten(homeGeo, v, a)
			overwrite(two.Items, impl.Item{Path: "changed"})
			overwrite(s.Names, "changed")
			if !slices.Equal(whole, before) {
				t.Fatalf("Asked has changed %#v with %#v, or its result shares memory with it", v, a)
			}
			overwrite(whole, impl.Item{Path: "changed"})
			if !equalViews(one, alone) || !equalResults(r, q) {
				t.Fatalf("Asked(%#v, %#v): got %#v and %#v, want %#v and %#v", v, a, one, r, alone, q)
			}
			copy(whole, before)
			checkLookUp(t, given, a.Path, lookedUpAsWritten(v, a.Path))
			checkPlaceFor(t, given, a.Path, placeAsWritten(v, a.Path))
		}
		if !slices.Equal(whole, before) {
			t.Fatalf("a question has changed %#v", v)
		}
	}
}

func TestTextsOfAsksAreNew(t *testing.T) {
	for _, v := range append(someViews(), homeView) {
		v = viewCopy(v)
		for i, x := range v.Items {
			// Texts of their own, because those of the tables lie in the program.
			v.Items[i] = impl.Item{Path: strings.Clone(x.Path), Dir: x.Dir, Text: strings.Clone(x.Text)}
		}
		for _, a := range manyAsks(append(pathsOf(v), "/", "/h")) {
			a.Path, a.To, a.Text = strings.Clone(a.Path), strings.Clone(a.To), strings.Clone(a.Text)
			after, r := impl.Asked(homeGeo, v, a)
			given := append(viewTexts(v), a.Path, a.To, a.Text)
			checkTextsNew(t, "Asked", append(append(viewTexts(after), r.Text), r.Names...), given)
		}
	}
	for _, length := range []int{1, 2, 33, 127, 128, 129, 200} {
		old, text := strings.Clone(longText(length)), strings.Clone(longText(length))
		for _, n := range []int{-1, 0, 1, 2, 100, 127, 128, 129} {
			checkTextsNew(t, "TextWith", []string{impl.TextWith(old, n, text)}, []string{old, text})
			checkTextsNew(t, "TextWith nothing", []string{impl.TextWith(old, n, "")}, []string{old})
			checkTextsNew(t, "TextWith of nothing", []string{impl.TextWith("", n, text)}, []string{text})
			checkTextsNew(t, "TextCut", []string{impl.TextCut(old, n)}, []string{old})
		}
	}
}
