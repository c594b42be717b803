package tests

import (
	"math"
	"math/rand"
	"slices"
	"strings"
	"testing"

	"loop.example/g00969/impl"
)

// knownStates are valid lists with their words written out, so that no other code is needed to check these.
var knownStates = []struct {
	list  []int
	words []string
}{
	{[]int{0}, []string{zeroWord, zeroWord}},
	{[]int{1}, []string{"\x01\x00\x00\x00\x00\x00\x00\x00", zeroWord}},
	{[]int{2}, []string{"\x02\x00\x00\x00\x00\x00\x00\x00", zeroWord}},
	{[]int{0, 2, 1}, []string{"\x00\x02\x01\x00\x00\x00\x00\x00", zeroWord}},
	{[]int{1, 0, 0, 0, 0}, []string{"\x01\x00\x00\x00\x00\x00\x00\x00", zeroWord}},
	{[]int{2, 1, 0, 2, 1, 0, 2}, []string{"\x02\x01\x00\x02\x01\x00\x02\x00", zeroWord}},
	{[]int{1, 1, 2, 2, 0, 0, 1, 2}, []string{"\x01\x01\x02\x02\x00\x00\x01\x02", zeroWord}},
	{[]int{0, 0, 0, 0, 0, 0, 0, 0, 1}, []string{zeroWord, "\x01\x00\x00\x00\x00\x00\x00\x00"}},
	{[]int{0, 1, 2, 0, 1, 2, 0, 1, 2}, []string{"\x00\x01\x02\x00\x01\x02\x00\x01", "\x02\x00\x00\x00\x00\x00\x00\x00"}},
	{[]int{0, 0, 0, 0, 0, 0, 0, 0, 0, 0, 0, 0}, []string{zeroWord, zeroWord}},
	{[]int{2, 2, 2, 2, 2, 2, 2, 2, 2, 2, 2, 2}, []string{"\x02\x02\x02\x02\x02\x02\x02\x02", "\x02\x02\x02\x02\x00\x00\x00\x00"}},
	{[]int{2, 0, 1, 1, 0, 2, 2, 1, 0, 1, 2, 1}, []string{"\x02\x00\x01\x01\x00\x02\x02\x01", "\x00\x01\x02\x01\x00\x00\x00\x00"}},
}

// Numbers that are no state, those among them that are one in fewer bits.
var notStates = append([]int{-1, 3, 4, 8, 12, 127, 128, 255, 256, 257, 258, -254, -255, 65536, 65537, 65538, 1<<32 + 2, 1<<63 - 2}, numbersTooFar...)

// pageCounts are all numbers of pages from -1 to one behind two words, and others far off.
func pageCounts() []int {
	counts := slices.Clone(numbersTooFar)
	for n := -1; n <= 17; n++ {
		counts = append(counts, n)
	}
	for n := range 13 {
		counts = append(counts, n+256, n-256, n+1<<32, n-1<<32, n+math.MinInt, math.MaxInt-n)
	}
	return counts
}

func checkStatesOk(t *testing.T, list []int, pages int, want bool) {
	t.Helper()
	if got := impl.StatesOk(list, pages); got != want {
		t.Errorf("StatesOk(%v, %d): got %v, want %v", list, pages, got, want)
	}
}

func checkStatesWords(t *testing.T, list []int, want []string) {
	t.Helper()
	if got := impl.StatesWords(list); !slices.Equal(got, want) {
		t.Errorf("StatesWords(%v): got %q, want %q", list, got, want)
	}
}

func checkReadStates(t *testing.T, words []string, pages int, want []int, wantOk bool) {
	t.Helper()
	if got, ok := impl.ReadStates(words, pages); !slices.Equal(got, want) || ok != wantOk {
		t.Errorf("ReadStates(%.40q, %d): got %v and %v, want %v and %v", words, pages, got, ok, want, wantOk)
	}
}

// checkNoStates wants the words to be those of no list, whatever its length.
func checkNoStates(t *testing.T, words []string) {
	t.Helper()
	for pages := -1; pages <= 17; pages++ {
		checkReadStates(t, words, pages, nil, false)
	}
}

// checkValidStates takes a valid list and its words, with every function that there is for them.
func checkValidStates(t *testing.T, list []int, words []string) {
	t.Helper()
	checkStatesOk(t, list, len(list), true)
	checkStatesWords(t, list, words)
	checkReadStates(t, words, len(list), list, true)
}

// checkInvalidStates takes a list that is not valid for any number of pages.
func checkInvalidStates(t *testing.T, list []int) {
	t.Helper()
	checkStatesOk(t, list, len(list), false)
	checkStatesWords(t, list, nil)
}

// checkPagesWith wants just the indexes at which the list has the state, each once and in order.
func checkPagesWith(t *testing.T, list []int, state int) {
	t.Helper()
	got := impl.PagesWith(list, state)
	wrong := false
	for i := range list {
		wrong = wrong || slices.Contains(got, i) != (list[i] == state)
	}
	for i, page := range got {
		wrong = wrong || page < 0 || page >= len(list) || i > 0 && page <= got[i-1]
	}
	if wrong {
		t.Errorf("PagesWith(%v, %d): got %v", list, state, got)
	}
}

// checkWithState wants the state at the indexes that are among the pages, and what the list has at all others.
func checkWithState(t *testing.T, list []int, pages []int, state int) {
	t.Helper()
	got := impl.WithState(list, pages, state)
	wrong := len(got) != len(list)
	for i := range min(len(list), len(got)) {
		if slices.Contains(pages, i) {
			wrong = wrong || got[i] != state
		} else {
			wrong = wrong || got[i] != list[i]
		}
	}
	if wrong {
		t.Errorf("WithState(%v, %v, %d): got %v", list, pages, state, got)
	}
}

func checkFirstClean(t *testing.T, list []int, n int, want []int, wantOk bool) {
	t.Helper()
	if got, ok := impl.FirstClean(list, n); !slices.Equal(got, want) || ok != wantOk {
		t.Errorf("FirstClean(%v, %d): got %v and %v, want %v and %v", list, n, got, ok, want, wantOk)
	}
}

// checkEveryFirstClean takes the clean pages of the list, and asks for any number of them.
func checkEveryFirstClean(t *testing.T, list []int, clean []int) {
	t.Helper()
	for n := range clean {
		checkFirstClean(t, list, n, clean[:n], true)
	}
	checkFirstClean(t, list, len(clean), clean, true)
	for _, n := range append([]int{-1, len(clean) + 1, len(clean) + 2, len(list) + 1, len(clean) + 256, len(clean) + 1<<32}, numbersTooFar...) {
		checkFirstClean(t, list, n, nil, false)
	}
}

// writtenStates puts the words of a valid list together.
func writtenStates(list []int) []string {
	text := ""
	for _, state := range list {
		text += encodedNumber(state, 1)
	}
	text = (text + zeroWord + zeroWord)[:16]
	return []string{text[:8], text[8:]}
}

// statesIn decodes words by the letter of the specification, one requirement after the other.
func statesIn(words []string, pages int) ([]int, bool) {
	if pages < 1 || pages > 12 || len(words) != 2 || len(words[0]) != 8 || len(words[1]) != 8 {
		return nil, false
	}
	text := words[0] + words[1]
	if strings.Trim(text[:pages], "\x00\x01\x02") != "" || strings.Trim(text[pages:], "\x00") != "" {
		return nil, false
	}
	list := []int{}
	for i := range pages {
		list = append(list, int(text[i]))
	}
	return list, true
}

// checkStatesAsWritten takes any words: they are those of just the list of that length that statesIn finds, or of none.
func checkStatesAsWritten(t *testing.T, words []string, pages int) bool {
	t.Helper()
	want, ok := statesIn(words, pages)
	if ok && !slices.Equal(writtenStates(want), words) {
		t.Errorf("the tests take %q for the words of %v", words, want)
	}
	checkReadStates(t, words, pages, want, ok)
	return ok
}

func randomStates(source *rand.Rand, length int) []int {
	list := []int{}
	for range length {
		list = append(list, source.Intn(3))
	}
	return list
}

// validStates are the known lists and random ones, as many for each length.
func validStates(more int) [][]int {
	lists := [][]int{}
	for _, c := range knownStates {
		lists = append(lists, slices.Clone(c.list))
	}
	source := rand.New(rand.NewSource(16))
	for length := 1; length <= 12; length++ {
		for range more {
			lists = append(lists, randomStates(source, length))
		}
	}
	return lists
}

// invalidStates are lists of no element, of too many, and with one that is no state.
func invalidStates() [][]int {
	lists := [][]int{nil, {}}
	source := rand.New(rand.NewSource(17))
	for _, length := range []int{13, 14, 15, 16, 17, 24, 100, 256, 257, 268} {
		lists = append(lists, make([]int, length), randomStates(source, length))
	}
	for length := 1; length <= 14; length++ {
		for i := range length {
			for _, n := range notStates {
				list := randomStates(source, length)
				list[i] = n
				lists = append(lists, list)
			}
		}
	}
	return lists
}

func TestStatesConstants(t *testing.T) {
	if impl.PgClean != 0 || impl.PgDirty != 1 || impl.PgUsed != 2 {
		t.Errorf("got the states %d, %d and %d, want 0, 1 and 2", impl.PgClean, impl.PgDirty, impl.PgUsed)
	}
}

func TestStatesOkForEachLengthAndNumberOfPages(t *testing.T) {
	source := rand.New(rand.NewSource(18))
	lists := [][]int{nil, make([]int, 256), make([]int, 257), make([]int, 268)}
	for length := range 20 {
		lists = append(lists, make([]int, length), randomStates(source, length), randomStates(source, length), slices.Repeat([]int{2}, length))
	}
	for _, list := range lists {
		for _, pages := range append(pageCounts(), len(list), len(list)-1, len(list)+1) {
			checkStatesOk(t, list, pages, pages == len(list) && pages >= 1 && pages <= 12)
		}
	}
}

// The limits of the specification, written out.
func TestStatesOkAtTheEndsOfEachRange(t *testing.T) {
	most, more := make([]int, impl.MaxPages), make([]int, impl.MaxPages+1)
	for _, c := range []struct {
		list  []int
		pages int
		want  bool
	}{
		{nil, 0, false}, {nil, -1, false}, {nil, 1, false}, {nil, 12, false}, {nil, math.MinInt, false}, {nil, math.MaxInt, false},
		{[]int{0}, 1, true}, {[]int{0}, 0, false}, {[]int{0}, 2, false}, {[]int{0}, -1, false}, {[]int{0}, 12, false}, {[]int{0}, 13, false}, {[]int{0}, math.MinInt, false}, {[]int{0}, math.MaxInt, false},
		{most, 12, true}, {most, 11, false}, {most, 13, false}, {most, 0, false}, {most, -1, false}, {most, math.MinInt, false}, {most, math.MaxInt, false},
		{more, 13, false}, {more, 12, false}, {more, 14, false}, {more, 0, false}, {more, -1, false}, {more, math.MinInt, false}, {more, math.MaxInt, false},
		{[]int{0, 1, 2}, 3, true}, {[]int{-1}, 1, false}, {[]int{3}, 1, false}, {[]int{math.MinInt}, 1, false}, {[]int{math.MaxInt}, 1, false},
	} {
		checkStatesOk(t, c.list, c.pages, c.want)
	}
}

func TestStatesOkForEveryShortList(t *testing.T) {
	everyList([]int{-1, 0, 1, 2, 3}, 5, func(list []int) {
		ok := !slices.Contains(list, -1) && !slices.Contains(list, 3)
		for pages := -1; pages <= 7; pages++ {
			checkStatesOk(t, list, pages, ok && pages == len(list) && pages > 0)
		}
	})
}

func TestStatesThatDoNotExist(t *testing.T) {
	for length := 1; length <= 12; length++ {
		for i := range length {
			for _, n := range notStates {
				for state := range 3 {
					list := slices.Repeat([]int{state}, length)
					checkStatesOk(t, list, length, true)
					list[i] = n
					checkInvalidStates(t, list)
				}
			}
		}
	}
}

func TestListsThatAreNotValid(t *testing.T) {
	for _, list := range invalidStates() {
		checkInvalidStates(t, list)
	}
}

func TestKnownStates(t *testing.T) {
	for _, c := range knownStates {
		checkValidStates(t, c.list, c.words)
	}
}

// Every state at every place, byte by byte, among neighbours of every state.
func TestWordsOfEveryState(t *testing.T) {
	for _, length := range []int{1, 2, 6, 7, 8, 9, 10, 11, 12} {
		for others := range 3 {
			for i := range length {
				for state := range 3 {
					list := slices.Repeat([]int{others}, length)
					list[i] = state
					words := impl.StatesWords(list)
					if len(words) != 2 || len(words[0]) != 8 || len(words[1]) != 8 {
						t.Fatalf("StatesWords(%v): got %q, want two words of 8 bytes", list, words)
					}
					for at, b := range []byte(words[0] + words[1]) {
						want := others
						if at == i {
							want = state
						} else if at >= length {
							want = 0
						}
						if int(b) != want {
							t.Errorf("StatesWords(%v): byte %d is %d, want %d", list, at, b, want)
						}
					}
					checkValidStates(t, list, writtenStates(list))
				}
			}
		}
	}
}

// All lists that there are, of every length.
func TestEveryListOfStatesComesBack(t *testing.T) {
	for length, count := 1, 3; length <= 12; length, count = length+1, 3*count {
		list := make([]int, length)
		for number := range count {
			for i, rest := 0, number; i < length; i, rest = i+1, rest/3 {
				list[i] = rest % 3
			}
			words := impl.StatesWords(list)
			back, ok := impl.ReadStates(words, length)
			if len(words) != 2 || !ok || !slices.Equal(back, list) {
				t.Fatalf("%v has the words %q, which are read as %v and %v", list, words, back, ok)
			}
		}
	}
}

// The words do not tell how many clean pages there are behind the last one that is not clean.
func TestReadStatesWithAnyNumberOfPages(t *testing.T) {
	for _, list := range validStates(20) {
		words := writtenStates(list)
		checkReadStates(t, words, len(list), list, true)
		for _, pages := range pageCounts() {
			checkStatesAsWritten(t, words, pages)
		}
		for pages := len(list); pages <= 12; pages++ {
			checkReadStates(t, words, pages, append(slices.Clone(list), make([]int, pages-len(list))...), true)
		}
		for pages := range len(list) {
			ok := pages > 0 && !slices.Contains(list[pages:], 1) && !slices.Contains(list[pages:], 2)
			if ok {
				checkReadStates(t, words, pages, list[:pages], true)
			} else {
				checkReadStates(t, words, pages, nil, false)
			}
		}
	}
}

func TestReadStatesOfKnownWordsWithOtherNumbersOfPages(t *testing.T) {
	for _, c := range []struct {
		words []string
		pages int
		list  []int
		ok    bool
	}{
		{[]string{"\x00\x02\x01\x00\x00\x00\x00\x00", zeroWord}, 3, []int{0, 2, 1}, true},
		{[]string{"\x00\x02\x01\x00\x00\x00\x00\x00", zeroWord}, 2, nil, false},
		{[]string{"\x00\x02\x01\x00\x00\x00\x00\x00", zeroWord}, 4, []int{0, 2, 1, 0}, true},
		{[]string{"\x00\x02\x01\x00\x00\x00\x00\x00", zeroWord}, 12, []int{0, 2, 1, 0, 0, 0, 0, 0, 0, 0, 0, 0}, true},
		{[]string{"\x00\x02\x01\x00\x00\x00\x00\x00", zeroWord}, 13, nil, false},
		{[]string{"\x00\x02\x01\x00\x00\x00\x00\x00", zeroWord}, 0, nil, false},
		{[]string{"\x00\x02\x01\x00\x00\x00\x00\x00", zeroWord}, -1, nil, false},
		{[]string{"\x00\x02\x01\x00\x00\x00\x00\x00", zeroWord}, math.MinInt, nil, false},
		{[]string{"\x00\x02\x01\x00\x00\x00\x00\x00", zeroWord}, math.MaxInt, nil, false},
		{[]string{zeroWord, zeroWord}, 0, nil, false},
		{[]string{zeroWord, zeroWord}, 1, []int{0}, true},
		{[]string{zeroWord, zeroWord}, 12, make([]int, 12), true},
		{[]string{zeroWord, zeroWord}, 13, nil, false},
		{[]string{zeroWord, zeroWord}, 16, nil, false},
		{[]string{zeroWord, "\x00\x00\x00\x02\x00\x00\x00\x00"}, 12, []int{0, 0, 0, 0, 0, 0, 0, 0, 0, 0, 0, 2}, true},
		{[]string{zeroWord, "\x00\x00\x00\x02\x00\x00\x00\x00"}, 11, nil, false},
		{[]string{zeroWord, "\x00\x00\x00\x00\x01\x00\x00\x00"}, 12, nil, false},
		{[]string{zeroWord, "\x00\x00\x00\x00\x01\x00\x00\x00"}, 13, nil, false},
		{[]string{zeroWord, "\x00\x00\x00\x00\x00\x00\x00\x01"}, 16, nil, false},
		{[]string{zeroWord, "\x01\x00\x00\x00\x00\x00\x00\x00"}, 8, nil, false},
		{[]string{"\x03\x00\x00\x00\x00\x00\x00\x00", zeroWord}, 1, nil, false},
		{[]string{"\xff\x00\x00\x00\x00\x00\x00\x00", zeroWord}, 1, nil, false},
		{[]string{"01200000", "00000000"}, 12, nil, false},
	} {
		checkReadStates(t, c.words, c.pages, c.list, c.ok)
	}
}

// Each byte of each word is given every value in turn, also those behind the last state.
func TestReadStatesForEachByte(t *testing.T) {
	for _, list := range validStates(2) {
		words := writtenStates(list)
		still := 0
		for k, word := range words {
			for at := range 8 {
				for b := range 256 {
					words[k] = word[:at] + encodedNumber(b, 1) + word[at+1:]
					if checkStatesAsWritten(t, words, len(list)) {
						still++
					}
					for _, pages := range []int{0, 1, len(list) - 1, len(list) + 1, 12, 13} {
						checkStatesAsWritten(t, words, pages)
					}
				}
			}
			words[k] = word
		}
		// Each state may be any of the three, and each of the bytes behind the last one has its own value only.
		if want := 3*len(list) + 16 - len(list); still != want {
			t.Errorf("%v: %d of its changed words are valid, want %d", list, still, want)
		}
	}
}

func TestReadStatesOfRandomWords(t *testing.T) {
	source := rand.New(rand.NewSource(19))
	for range 20000 {
		text := ""
		// The bytes are those of states, and rarely another one, up to a place from which on they are zero.
		for range source.Intn(17) {
			text += encodedNumber(source.Intn(300)/100+source.Intn(100)/99, 1)
		}
		text = (text + zeroWord + zeroWord)[:16]
		checkStatesAsWritten(t, []string{text[:8], text[8:]}, source.Intn(15)-1)
		checkStatesAsWritten(t, []string{randomText(source, 8), randomText(source, 8)}, 1+source.Intn(12))
	}
}

func TestReadStatesOfOtherNumbersOfWords(t *testing.T) {
	for _, pages := range pageCounts() {
		checkReadStates(t, nil, pages, nil, false)
		checkReadStates(t, []string{}, pages, nil, false)
	}
	for _, list := range validStates(3) {
		words := writtenStates(list)
		checkReadStates(t, words, len(list), list, true)
		checkNoStates(t, words[:1])
		checkNoStates(t, words[1:])
		for _, more := range []string{zeroWord, "", "\x01\x00\x00\x00\x00\x00\x00\x00", words[0]} {
			for at := range 3 {
				checkNoStates(t, slices.Insert(slices.Clone(words), at, more))
			}
		}
		checkNoStates(t, slices.Concat(words, words))
		checkNoStates(t, slices.Repeat(words, 100))
		checkNoStates(t, []string{words[0] + words[1]})
		checkNoStates(t, strings.Split(words[0]+words[1], ""))
	}
}

func TestReadStatesOfWordsOfOtherLengths(t *testing.T) {
	for _, list := range validStates(3) {
		words := writtenStates(list)
		for i, word := range words {
			for length := range 8 {
				words[i] = word[:length]
				checkNoStates(t, words)
				words[i] = word[length+1:]
				checkNoStates(t, words)
			}
			for _, longer := range []string{word + "\x00", word + "\x01", word + zeroWord, "\x00" + word, zeroWord + word, word + strings.Repeat("\x00", 1000)} {
				words[i] = longer
				checkNoStates(t, words)
			}
			words[i] = word
		}
		// The bytes are all there, but they are divided in another way.
		for first := range 17 {
			if text := words[0] + words[1]; first != 8 {
				checkNoStates(t, []string{text[:first], text[first:]})
			}
		}
		// The longer word has all the bytes of both, or ends with those of the other one.
		checkNoStates(t, []string{words[0] + words[1], words[1]})
		checkNoStates(t, []string{words[0] + words[1], zeroWord})
		checkNoStates(t, []string{words[0], words[1] + words[1]})
		checkReadStates(t, words, len(list), list, true)
	}
	checkNoStates(t, []string{"", ""})
}

// Lists that are not valid have no words, so that the bytes which they would have are read as no list.
func TestReadStatesOfBytesOfInvalidLists(t *testing.T) {
	for _, list := range invalidStates() {
		if len(list) > 0 && len(list) <= 16 {
			words := writtenStates(list)
			checkStatesAsWritten(t, words, len(list))
			if len(list) > 12 || strings.Trim(words[0]+words[1], "\x00\x01\x02") != "" {
				checkReadStates(t, words, len(list), nil, false)
			}
		}
	}
}

func TestKnownPagesWithAState(t *testing.T) {
	for _, c := range []struct {
		list  []int
		state int
		want  []int
	}{
		{nil, 0, nil}, {[]int{}, 1, nil}, {nil, 2, nil}, {nil, -1, nil}, {nil, 3, nil},
		{[]int{0}, 0, []int{0}}, {[]int{0}, 1, nil}, {[]int{0}, 2, nil}, {[]int{2}, 2, []int{0}},
		{[]int{0, 2, 1}, 0, []int{0}}, {[]int{0, 2, 1}, 1, []int{2}}, {[]int{0, 2, 1}, 2, []int{1}}, {[]int{0, 2, 1}, -1, nil}, {[]int{0, 2, 1}, 3, nil},
		{[]int{1, 0, 1, 2, 0, 1}, 1, []int{0, 2, 5}}, {[]int{1, 0, 1, 2, 0, 1}, 0, []int{1, 4}}, {[]int{1, 0, 1, 2, 0, 1}, 2, []int{3}},
		{[]int{1, 1, 1, 1}, 1, []int{0, 1, 2, 3}}, {[]int{1, 1, 1, 1}, 0, nil}, {[]int{1, 1, 1, 1}, 2, nil},
		{make([]int, 12), 0, []int{0, 1, 2, 3, 4, 5, 6, 7, 8, 9, 10, 11}},
		// The list does not have to be valid, and the state is not checked.
		{make([]int, 14), 0, []int{0, 1, 2, 3, 4, 5, 6, 7, 8, 9, 10, 11, 12, 13}},
		{[]int{3, 0, -1, 2, 3}, 0, []int{1}}, {[]int{3, 0, -1, 2, 3}, 2, []int{3}}, {[]int{3, 0, -1, 2, 3}, 3, []int{0, 4}}, {[]int{3, 0, -1, 2, 3}, -1, []int{2}}, {[]int{256, 0, 1 << 32}, 0, []int{1}},
	} {
		if got := impl.PagesWith(c.list, c.state); !slices.Equal(got, c.want) {
			t.Errorf("PagesWith(%v, %d): got %v, want %v", c.list, c.state, got, c.want)
		}
	}
}

func TestPagesWithEachState(t *testing.T) {
	lists := append(validStates(10), invalidStates()...)
	everyList([]int{-1, 0, 1, 2, 3}, 4, func(list []int) { lists = append(lists, list) })
	for _, list := range lists {
		for _, state := range []int{-1, 0, 1, 2, 3, 256, 1 << 32, math.MinInt, math.MaxInt} {
			checkPagesWith(t, list, state)
		}
	}
}

// Each page has one state, so that the pages with each of the three are all pages, each once.
func TestPagesWithAllStates(t *testing.T) {
	for _, list := range validStates(20) {
		all := slices.Concat(impl.PagesWith(list, 0), impl.PagesWith(list, 1), impl.PagesWith(list, 2))
		slices.Sort(all)
		want := []int{}
		for page := range list {
			want = append(want, page)
		}
		if !slices.Equal(all, want) {
			t.Errorf("%v: the pages with a state are %v", list, all)
		}
		for _, state := range notStates {
			if got := impl.PagesWith(list, state); len(got) != 0 {
				t.Errorf("PagesWith(%v, %d): got %v, want none", list, state, got)
			}
		}
	}
}

func TestKnownListsWithAnotherState(t *testing.T) {
	for _, c := range []struct {
		list  []int
		pages []int
		state int
		want  []int
	}{
		{nil, nil, 1, nil}, {nil, []int{0}, 1, nil}, {[]int{}, []int{-1, 0, 1}, 2, nil},
		{[]int{0, 2, 1}, nil, 1, []int{0, 2, 1}}, {[]int{0, 2, 1}, []int{}, 2, []int{0, 2, 1}},
		{[]int{0, 2, 1}, []int{0}, 1, []int{1, 2, 1}}, {[]int{0, 2, 1}, []int{1}, 1, []int{0, 1, 1}}, {[]int{0, 2, 1}, []int{2}, 0, []int{0, 2, 0}},
		{[]int{0, 2, 1}, []int{0, 9}, 1, []int{1, 2, 1}}, {[]int{0, 2, 1}, []int{2, 0}, 2, []int{2, 2, 2}}, {[]int{0, 2, 1}, []int{0, 1, 2}, 0, []int{0, 0, 0}},
		{[]int{0, 2, 1}, []int{1, 1}, 1, []int{0, 1, 1}}, {[]int{0, 2, 1}, []int{0, 2, 0, 0}, 2, []int{2, 2, 2}},
		{[]int{0, 2, 1}, []int{-1}, 1, []int{0, 2, 1}}, {[]int{0, 2, 1}, []int{3}, 1, []int{0, 2, 1}}, {[]int{0, 2, 1}, []int{math.MinInt, math.MaxInt}, 1, []int{0, 2, 1}},
		{[]int{0, 2, 1}, []int{-1, 3, 1, math.MaxInt, math.MinInt, 0}, 1, []int{1, 1, 1}},
		// The list does not have to be valid, and the state is not checked.
		{[]int{0, 2, 1}, []int{1}, 3, []int{0, 3, 1}}, {[]int{0, 2, 1}, []int{1}, -1, []int{0, -1, 1}}, {[]int{0, 2, 1}, []int{0, 2}, math.MaxInt, []int{math.MaxInt, 2, math.MaxInt}},
		{[]int{7, -1, 3}, []int{1}, 2, []int{7, 2, 3}}, {make([]int, 14), []int{13}, 1, []int{0, 0, 0, 0, 0, 0, 0, 0, 0, 0, 0, 0, 0, 1}},
	} {
		if got := impl.WithState(c.list, c.pages, c.state); !slices.Equal(got, c.want) {
			t.Errorf("WithState(%v, %v, %d): got %v, want %v", c.list, c.pages, c.state, got, c.want)
		}
	}
}

func TestWithEachState(t *testing.T) {
	everyList([]int{-1, 0, 1, 2, 3}, 4, func(pages []int) {
		everyList([]int{0, 1, 2}, 3, func(list []int) {
			for _, state := range []int{0, 1, 2, 3} {
				checkWithState(t, list, pages, state)
			}
		})
	})
	for _, list := range append(validStates(3), invalidStates()...) {
		for _, state := range []int{-1, 0, 1, 2, 3, 255, 256, math.MinInt, math.MaxInt} {
			for i := -1; i <= min(len(list), 14); i++ {
				checkWithState(t, list, []int{i}, state)
				checkWithState(t, list, []int{i, i}, state)
				checkWithState(t, list, []int{len(list) - 1, i, 0}, state)
			}
			checkWithState(t, list, nil, state)
			checkWithState(t, list, append([]int{-1, len(list), len(list) + 1, len(list) + 256, len(list) + 1<<32, -len(list)}, numbersTooFar...), state)
			checkWithState(t, list, list, state)
		}
	}
}

// A valid list stays valid with each of the three states, and with no other state unless no page gets it.
func TestWithStateKeepsAListValid(t *testing.T) {
	for _, list := range validStates(5) {
		for i := range list {
			for state := range 3 {
				changed := impl.WithState(list, []int{i}, state)
				checkValidStates(t, changed, writtenStates(changed))
				if !slices.Contains(impl.PagesWith(changed, state), i) {
					t.Errorf("%v: page %d does not have the state %d", changed, i, state)
				}
			}
			for _, state := range notStates {
				checkInvalidStates(t, impl.WithState(list, []int{i}, state))
			}
		}
		for _, state := range notStates {
			checkValidStates(t, impl.WithState(list, []int{-1, len(list)}, state), writtenStates(list))
		}
	}
}

func TestFirstCleanOfKnownLists(t *testing.T) {
	for _, c := range []struct {
		list, clean []int
	}{
		{nil, nil}, {[]int{}, nil},
		{[]int{0}, []int{0}}, {[]int{1}, nil}, {[]int{2}, nil},
		{[]int{0, 2, 1}, []int{0}}, {[]int{2, 1, 2}, nil}, {[]int{2, 1, 0}, []int{2}}, {[]int{0, 0, 0}, []int{0, 1, 2}},
		{[]int{2, 0, 1, 0, 0, 2, 0}, []int{1, 3, 4, 6}},
		{[]int{2, 2, 2, 2, 2, 2, 2, 2, 2, 2, 2, 2}, nil}, {make([]int, 12), []int{0, 1, 2, 3, 4, 5, 6, 7, 8, 9, 10, 11}},
		{[]int{1, 2, 1, 2, 1, 2, 1, 2, 1, 2, 1, 0}, []int{11}},
		// The list does not have to be valid.
		{[]int{3, 0, -1, 0, 7}, []int{1, 3}}, {make([]int, 14), []int{0, 1, 2, 3, 4, 5, 6, 7, 8, 9, 10, 11, 12, 13}}, {[]int{256, 1 << 32, -1}, nil},
	} {
		checkEveryFirstClean(t, c.list, c.clean)
	}
	checkFirstClean(t, nil, 0, nil, true)
	checkFirstClean(t, nil, 1, nil, false)
	checkFirstClean(t, []int{1}, 0, nil, true)
	checkFirstClean(t, []int{0, 0}, -1, nil, false)
	checkFirstClean(t, []int{0, 0}, 3, nil, false)
	checkFirstClean(t, []int{0, 0}, math.MinInt, nil, false)
	checkFirstClean(t, []int{0, 0}, math.MaxInt, nil, false)
}

func TestFirstCleanOfEachList(t *testing.T) {
	lists := append(validStates(10), invalidStates()...)
	everyList([]int{-1, 0, 1, 2}, 4, func(list []int) { lists = append(lists, list) })
	for _, list := range lists {
		clean := []int{}
		for page, state := range list {
			if state == 0 {
				clean = append(clean, page)
			}
		}
		checkEveryFirstClean(t, list, clean)
	}
}

// Pages are taken, given back and cleared, while a map by page tells what they are.
func TestLongHistoriesOfPages(t *testing.T) {
	source := rand.New(rand.NewSource(20))
	for range 100 {
		list, used, dirty := make([]int, 1+source.Intn(12)), map[int]bool{}, map[int]bool{}
		for range 60 {
			switch n := source.Intn(4); source.Intn(3) {
			case 0:
				taken, ok := impl.FirstClean(list, n)
				if ok != (n <= len(list)-len(used)-len(dirty)) {
					t.Fatalf("FirstClean(%v, %d): got %v and %v", list, n, taken, ok)
				}
				for _, page := range taken {
					used[page] = true
				}
				list = impl.WithState(list, taken, impl.PgUsed)
			case 1:
				given := impl.PagesWith(list, impl.PgUsed)
				given = given[:min(n, len(given))]
				for _, page := range given {
					delete(used, page)
					dirty[page] = true
				}
				list = impl.WithState(list, given, impl.PgDirty)
			case 2:
				list = impl.WithState(list, impl.PagesWith(list, impl.PgDirty), impl.PgClean)
				clear(dirty)
			}
			for page, state := range list {
				if (state == impl.PgUsed) != used[page] || (state == impl.PgDirty) != dirty[page] {
					t.Fatalf("page %d of %v has another state", page, list)
				}
			}
			checkValidStates(t, list, writtenStates(list))
		}
	}
}

// The states of all tenants are read back from their places in a memory, the words 36 and 37 of each partition.
func TestStatesStoredAtTheirPlaces(t *testing.T) {
	source := rand.New(rand.NewSource(21))
	for _, g := range validGeos() {
		m, stored := impl.MemoryNew(impl.LinesIn(g)), [][]int{}
		for tenant := range g.Tenants {
			stored = append(stored, randomStates(source, g.Pages))
			for k, word := range impl.StatesWords(stored[tenant]) {
				at := impl.CommitAt(g, tenant) + 36 + k
				checkPartAt(t, g, at, tenant, impl.PtStates)
				m = impl.StoreWord(m, at, word)
			}
		}
		for tenant, list := range stored {
			at := impl.CommitAt(g, tenant) + 36
			checkReadStates(t, []string{impl.WordAt(m, at), impl.WordAt(m, at+1)}, g.Pages, list, true)
		}
	}
}

// A list that comes up again is treated as it was before, whatever was done to other ones in between.
func TestStatesOfLaterCalls(t *testing.T) {
	for range 3 {
		for _, c := range knownStates {
			checkValidStates(t, c.list, c.words)
			checkInvalidStates(t, []int{0, 3})
			checkNoStates(t, c.words[1:])
			checkPagesWith(t, c.list, 1)
			checkWithState(t, c.list, []int{0, 5}, 2)
			checkEveryFirstClean(t, []int{0, 2, 1, 0}, []int{0, 3})
		}
	}
}

// checkOwnMemory makes a result twice from lists that lie among others, which do not count: neither result changes with the other one or with the lists, nor do these with a result.
func checkOwnMemory[T comparable](t *testing.T, what string, other T, result func(lists [][]int) []T, lists ...[]int) {
	t.Helper()
	parts, wholes, before := [][]int{}, [][]int{}, [][]int{}
	for _, list := range lists {
		part, whole := amongOthers(list, 0)
		parts, wholes, before = append(parts, part), append(wholes, whole), append(before, slices.Clone(whole))
	}
	one, two := result(parts), result(parts)
	kept := slices.Clone(one)
	if alone := result(lists); !slices.Equal(one, alone) {
		t.Fatalf("%s of %v: got %v, and %v with other elements around the lists", what, lists, alone, one)
	}
	overwrite(two, other)
	if !slices.Equal(one, kept) {
		t.Fatalf("%s of %v: two results share memory", what, lists)
	}
	for i, whole := range wholes {
		if !slices.Equal(whole, before[i]) {
			t.Fatalf("%s of %v: list %d has become %v", what, lists, i, whole)
		}
		overwrite(whole, 99)
	}
	if !slices.Equal(one, kept) {
		t.Fatalf("%s of %v: a result shares memory with a list", what, lists)
	}
}

func TestListsOfStatesAreLeftAsTheyAre(t *testing.T) {
	lists := append(validStates(5), invalidStates()...)
	for _, list := range lists {
		checkOwnMemory(t, "StatesOk", true, func(given [][]int) []bool { return []bool{impl.StatesOk(given[0], len(list))} }, list)
		checkOwnMemory(t, "StatesWords", "changed ", func(given [][]int) []string { return impl.StatesWords(given[0]) }, list)
		for _, state := range []int{0, 1, 2, 3} {
			checkOwnMemory(t, "PagesWith", 77, func(given [][]int) []int { return impl.PagesWith(given[0], state) }, list)
			for _, pages := range [][]int{nil, {0}, {3, 1}, {-1, 0, 5, 20}, list} {
				checkOwnMemory(t, "WithState", 77, func(given [][]int) []int { return impl.WithState(given[0], given[1], state) }, list, pages)
			}
		}
		for n := range 5 {
			checkOwnMemory(t, "FirstClean", 77, func(given [][]int) []int {
				first, _ := impl.FirstClean(given[0], n)
				return first
			}, list)
		}
	}
}

// One list may be both arguments.
func TestWithStateOfAListThatNamesItsOwnPages(t *testing.T) {
	for _, list := range validStates(5) {
		given := slices.Clone(list)
		got := impl.WithState(given, given, 1)
		if !slices.Equal(given, list) || !slices.Equal(got, impl.WithState(list, slices.Clone(list), 1)) {
			t.Errorf("WithState(%v) with the list as its pages: got %v, and the list is %v", list, got, given)
		}
	}
}

func TestWordsOfStatesAreLeftAsTheyAre(t *testing.T) {
	for _, list := range validStates(5) {
		words := writtenStates(list)
		for _, given := range [][]string{words, words[:1], {words[0], "\x03       "}, {words[0], words[1], zeroWord}} {
			part, whole := amongOthers(given, "none    ")
			before := slices.Clone(whole)
			one, _ := impl.ReadStates(part, len(list))
			two, _ := impl.ReadStates(part, len(list))
			kept := slices.Clone(one)
			want, _ := statesIn(given, len(list))
			if !slices.Equal(one, want) {
				t.Fatalf("ReadStates(%q, %d) with other words around these: got %v, want %v", given, len(list), one, want)
			}
			overwrite(two, 77)
			if !slices.Equal(whole, before) {
				t.Fatalf("ReadStates(%q, %d) has changed its words", given, len(list))
			}
			if !slices.Equal(one, kept) {
				t.Fatalf("results of ReadStates(%q, %d) share memory", given, len(list))
			}
		}
	}
}

func TestTextsOfStatesAreNew(t *testing.T) {
	for _, list := range validStates(5) {
		words := impl.StatesWords(list)
		checkTextsNew(t, "StatesWords", words, impl.StatesWords(list))
	}
}
