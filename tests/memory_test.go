package tests

import (
	"fmt"
	"math"
	"math/rand"
	"slices"
	"strings"
	"testing"
	"unsafe"

	"loop.example/g00969/impl"
)

// fourLines are the durable contents that most of these tests begin with; no two words are equal.
const fourLines = "a-word-0a-word-1" + "b-word-2b-word-3" + "c-word-4c-word-5" + "d-word-6d-word-7"

// memoryLineSize is what a line has in bytes, written out so that the tests do not depend on the constants.
const memoryLineSize = 16

// Indexes that no memory has, those among them that become small if they are multiplied by the size of a word or a line.
var indexesOfNothing = []int{
	-1, -2, -7, -8, -16, -1000, math.MinInt, math.MinInt + 1, math.MinInt / 2, 2000, 16000, math.MaxInt, math.MaxInt - 1, math.MaxInt / 2,
	1 << 32, 1<<32 + 1, 1 << 59, 1 << 60, 1<<60 + 1, 1 << 61, 1<<61 + 1, 1 << 62, -(1 << 60), -(1 << 61), 1 - 1<<61,
}

// modelLine is a line of a model that stores what each line has been through, instead of a list of changed lines.
type modelLine struct {
	durable, current string
	changed, flushed bool
}

type memoryModel []modelLine

// memoryChange is something that happens to a memory, with what it does to the model.
type memoryChange struct {
	onMemory func(m impl.Memory) impl.Memory
	onModel  func(lines memoryModel)
}

func storing(at int, word string) memoryChange {
	return memoryChange{
		func(m impl.Memory) impl.Memory { return impl.StoreWord(m, at, word) },
		func(lines memoryModel) {
			line := &lines[at/2]
			if at%2 == 0 {
				line.current = word + line.current[8:]
			} else {
				line.current = line.current[:8] + word
			}
			line.changed, line.flushed = true, false
		},
	}
}

func flushing(line int) memoryChange {
	return memoryChange{
		func(m impl.Memory) impl.Memory { return impl.FlushLine(m, line) },
		func(lines memoryModel) { lines[line].flushed = lines[line].changed },
	}
}

func fencing() memoryChange {
	return memoryChange{
		impl.Fence,
		func(lines memoryModel) {
			for i, line := range lines {
				if line.flushed {
					lines[i] = modelLine{durable: line.current, current: line.current}
				}
			}
		},
	}
}

func falling(picks int) memoryChange {
	return memoryChange{
		func(m impl.Memory) impl.Memory { return impl.FallenMemory(m, picks) },
		func(lines memoryModel) {
			bits := uint64(picks)
			for i, line := range lines {
				survives := line.changed && bits%2 == 1
				if line.changed {
					bits /= 2
				}
				if survives {
					line.durable = line.current
				}
				lines[i] = modelLine{durable: line.durable, current: line.durable}
			}
		},
	}
}

func modelOf(kept string) memoryModel {
	lines := memoryModel{}
	for ; kept != ""; kept = kept[memoryLineSize:] {
		lines = append(lines, modelLine{durable: kept[:memoryLineSize], current: kept[:memoryLineSize]})
	}
	return lines
}

func (lines memoryModel) memory() impl.Memory {
	m := impl.Memory{}
	for i, line := range lines {
		m.Kept += line.durable
		if line.changed {
			m.Cells = append(m.Cells, impl.Cell{Line: i, Text: line.current, Flushed: line.flushed})
		}
	}
	return m
}

func sameMemory(a impl.Memory, b impl.Memory) bool {
	return a.Kept == b.Kept && slices.Equal(a.Cells, b.Cells)
}

// shown gives the first parts of a memory, because a long one would fill pages.
func shown(m impl.Memory) string {
	text := fmt.Sprintf("{%d bytes %.80q", len(m.Kept), m.Kept)
	for _, cell := range m.Cells[:min(len(m.Cells), 5)] {
		text += fmt.Sprintf(" %d:%.40q:%v", cell.Line, cell.Text, cell.Flushed)
	}
	return text + fmt.Sprintf(" of %d cells}", len(m.Cells))
}

func checkMemory(t *testing.T, what string, got impl.Memory, want impl.Memory) {
	t.Helper()
	if !sameMemory(got, want) {
		t.Errorf("%s: got %s, want %s", what, shown(got), shown(want))
	}
}

func checkMemoryOk(t *testing.T, m impl.Memory, want bool) {
	t.Helper()
	if got := impl.MemoryOk(m); got != want {
		t.Errorf("MemoryOk(%s): got %v, want %v", shown(m), got, want)
	}
}

func checkWordAt(t *testing.T, m impl.Memory, at int, want string) {
	t.Helper()
	if got := impl.WordAt(m, at); got != want {
		t.Errorf("WordAt(%s, %d): got %q, want %q", shown(m), at, got, want)
	}
}

func checkStoreWord(t *testing.T, m impl.Memory, at int, word string, want impl.Memory) {
	t.Helper()
	if got := impl.StoreWord(m, at, word); !sameMemory(got, want) {
		t.Errorf("StoreWord(%s, %d, %q): got %s, want %s", shown(m), at, word, shown(got), shown(want))
	}
}

func checkFlushLine(t *testing.T, m impl.Memory, line int, want impl.Memory) {
	t.Helper()
	if got := impl.FlushLine(m, line); !sameMemory(got, want) {
		t.Errorf("FlushLine(%s, %d): got %s, want %s", shown(m), line, shown(got), shown(want))
	}
}

func checkFence(t *testing.T, m impl.Memory, want impl.Memory) {
	t.Helper()
	if got := impl.Fence(m); !sameMemory(got, want) {
		t.Errorf("Fence(%s): got %s, want %s", shown(m), shown(got), shown(want))
	}
}

func checkFallen(t *testing.T, m impl.Memory, picks int, want impl.Memory) {
	t.Helper()
	if got := impl.FallenMemory(m, picks); !sameMemory(got, want) {
		t.Errorf("FallenMemory(%s, %d): got %s, want %s", shown(m), picks, shown(got), shown(want))
	}
}

func checkUnsure(t *testing.T, m impl.Memory, want []int) {
	t.Helper()
	if got := impl.Unsure(m); !slices.Equal(got, want) {
		t.Errorf("Unsure(%s): got %v, want %v", shown(m), got, want)
	}
}

// checkAsModelled looks at a memory with every function that reads it.
func checkAsModelled(t *testing.T, m impl.Memory, lines memoryModel) {
	t.Helper()
	checkMemory(t, "a memory and its model", m, lines.memory())
	checkMemoryOk(t, m, true)
	changed := []int{}
	for i, line := range lines {
		checkWordAt(t, m, 2*i, line.current[:8])
		checkWordAt(t, m, 2*i+1, line.current[8:])
		if line.changed {
			changed = append(changed, i)
		}
	}
	checkWordAt(t, m, -1, "")
	checkWordAt(t, m, 2*len(lines), "")
	checkUnsure(t, m, changed)
}

// checkNothingHappens takes a memory that is not valid: it has no words and stays as it is.
func checkNothingHappens(t *testing.T, m impl.Memory) {
	t.Helper()
	checkMemoryOk(t, m, false)
	for at := -1; at < 10; at++ {
		checkWordAt(t, m, at, "")
		checkStoreWord(t, m, at, "new-word", m)
		checkStoreWord(t, m, at, "new", m)
		checkFlushLine(t, m, at, m)
	}
	last := len(m.Kept)/8 - 1
	checkWordAt(t, m, last, "")
	checkStoreWord(t, m, last, "new-word", m)
	checkFence(t, m, m)
	for _, picks := range []int{0, 1, 2, 3, 7, math.MaxInt, -1, math.MinInt} {
		checkFallen(t, m, picks, m)
	}
	lines := []int{}
	for _, cell := range m.Cells {
		checkFlushLine(t, m, cell.Line, m)
		lines = append(lines, cell.Line)
	}
	checkUnsure(t, m, lines)
}

// cellText is 16 bytes that differ from the ones of fourLines and from those of the 255 lines ahead and behind.
func cellText(line int) string {
	number := string([]byte{byte('a' + (line&255)/16), byte('a' + line&15)})
	return "cell-" + number + "-cell-" + number + "-"
}

// memoryWith has the four lines, and a cell for each of the given lines.
func memoryWith(flushed bool, lines ...int) impl.Memory {
	m := impl.Memory{Kept: fourLines}
	for _, line := range lines {
		m.Cells = append(m.Cells, impl.Cell{Line: line, Text: cellText(line), Flushed: flushed})
	}
	return m
}

// manyCells returns a memory of twice as many lines, of which every other one has a cell, and its model.
func manyCells(n int) (impl.Memory, memoryModel) {
	lines := modelOf(textOf(2 * n * memoryLineSize))
	for i := range n {
		text := eachByteMixed(lines[2*i+1].current, byte(1+i%255))
		lines[2*i+1].current, lines[2*i+1].changed, lines[2*i+1].flushed = text, true, i%3 == 0
	}
	return lines.memory(), lines
}

// badCellLists are wrong in one way each, in memories of four lines.
func badCellLists() [][]int {
	return [][]int{
		{-1}, {-4}, {4}, {5}, {100}, {math.MinInt}, {math.MaxInt}, {1 << 60}, {-(1 << 60)}, {1<<60 + 1}, {1 << 59},
		{-1, 0}, {-1, 0, 1, 2, 3}, {0, 1, 2, 3, 4}, {3, 4}, {0, math.MaxInt}, {math.MinInt, 0},
		{0, 0}, {3, 3}, {1, 1, 2}, {1, 2, 2}, {0, 1, 1, 3}, {1, 0}, {3, 0}, {0, 2, 1}, {2, 1, 3}, {3, 2, 1, 0}, {0, 3, 1}, {0, 1, 0},
	}
}

func invalidMemories() []impl.Memory {
	memories := []impl.Memory{}
	for _, length := range []int{1, 7, 8, 9, 15, 17, 24, 31, 33, 63, 65, 72, 15999, 16001, 16008, 16016, 16032, 20000, 32000} {
		memories = append(memories, impl.Memory{Kept: textOf(length)})
		if length > memoryLineSize {
			memories = append(memories, impl.Memory{Kept: textOf(length), Cells: []impl.Cell{{Line: 0, Text: cellText(0), Flushed: true}}})
		}
	}
	for _, flushed := range []bool{false, true} {
		for _, lines := range badCellLists() {
			memories = append(memories, memoryWith(flushed, lines...))
		}
		for _, length := range []int{0, 1, 8, 15, 17, 24, 32, 64} {
			for i := range 3 {
				m := memoryWith(flushed, 0, 1, 3)
				m.Cells[i].Text = textOf(length)
				memories = append(memories, m)
			}
		}
		memories = append(memories, impl.Memory{Cells: []impl.Cell{{Line: 0, Text: cellText(0), Flushed: flushed}}})
	}
	return memories
}

// validMemories have no cell, some and one for each line, flushed and not.
func validMemories() []impl.Memory {
	mixed := memoryWith(false, 0, 2, 3)
	mixed.Cells[1].Flushed = true
	many, _ := manyCells(70)
	return []impl.Memory{
		{}, impl.MemoryNew(1), impl.MemoryNew(impl.MaxMemory), memoryWith(false), memoryWith(false, 1), memoryWith(true, 1),
		memoryWith(false, 0, 1, 2, 3), memoryWith(true, 0, 1, 2, 3), mixed, many,
	}
}

func TestMemoryConstants(t *testing.T) {
	if impl.LineWords != 2 || impl.MaxMemory != 1000 {
		t.Errorf("got LineWords %d and MaxMemory %d, want 2 and 1000", impl.LineWords, impl.MaxMemory)
	}
}

func TestNewMemories(t *testing.T) {
	for lines := range impl.MaxMemory + 1 {
		m := impl.MemoryNew(lines)
		if m.Kept != strings.Repeat("\x00", 16*lines) || len(m.Cells) != 0 {
			t.Errorf("MemoryNew(%d): got %d bytes %.40q and %d cells", lines, len(m.Kept), m.Kept, len(m.Cells))
		}
		checkMemoryOk(t, m, true)
		checkUnsure(t, m, nil)
	}
	m := impl.MemoryNew(impl.MaxMemory)
	checkWordAt(t, m, 0, "\x00\x00\x00\x00\x00\x00\x00\x00")
	checkWordAt(t, m, 1999, "\x00\x00\x00\x00\x00\x00\x00\x00")
	checkWordAt(t, m, 2000, "")
}

func TestNewMemoriesOfOtherSizes(t *testing.T) {
	for _, lines := range append([]int{impl.MaxMemory + 1, impl.MaxMemory + 2, 1249, 1250, 1251}, indexesOfNothing...) {
		if got := impl.MemoryNew(lines); got.Kept != "" || len(got.Cells) != 0 {
			t.Errorf("MemoryNew(%d): got %d bytes and %d cells, want the zero Memory", lines, len(got.Kept), len(got.Cells))
		}
	}
}

func TestMemoryOkForEveryLength(t *testing.T) {
	for length := range 130 {
		checkMemoryOk(t, impl.Memory{Kept: textOf(length)}, length%16 == 0)
	}
	for length := 15900; length < 16200; length++ {
		checkMemoryOk(t, impl.Memory{Kept: textOf(length)}, length%16 == 0 && length <= 16000)
	}
	for _, length := range []int{20000, 32000, 1 << 16, 1 << 20} {
		checkMemoryOk(t, impl.Memory{Kept: textOf(length)}, false)
	}
}

// All lists of up to five cells with the lines around the ends of a memory of three lines.
func TestMemoryOkForEveryListOfLines(t *testing.T) {
	lists := [][]int{{}}
	for range 5 {
		longer := [][]int{}
		for _, lines := range lists {
			for line := -1; line <= 3; line++ {
				longer = append(longer, append(slices.Clone(lines), line))
			}
		}
		for _, lines := range longer {
			want := lines[0] >= 0 && lines[len(lines)-1] <= 2
			for i := 1; i < len(lines); i++ {
				want = want && lines[i-1] < lines[i]
			}
			for _, flushed := range []bool{false, true} {
				m := memoryWith(flushed, lines...)
				m.Kept = fourLines[:48]
				checkMemoryOk(t, m, want)
			}
		}
		lists = longer
	}
}

func TestMemoryOkForOtherLines(t *testing.T) {
	for _, line := range indexesOfNothing {
		checkMemoryOk(t, memoryWith(false, line), false)
		checkMemoryOk(t, memoryWith(true, 1, line), false)
		checkMemoryOk(t, memoryWith(true, line, 1), false)
	}
	checkMemoryOk(t, memoryWith(false, 3), true)
	checkMemoryOk(t, memoryWith(false, 4), false)
	checkMemoryOk(t, impl.Memory{Cells: []impl.Cell{{}}}, false)
	checkMemoryOk(t, impl.Memory{Cells: []impl.Cell{}}, true)
}

func TestMemoryOkForTextsOfEveryLength(t *testing.T) {
	for length := range 50 {
		for i := range 3 {
			m := memoryWith(i == 1, 0, 2, 3)
			m.Cells[i].Text = textOf(length)
			checkMemoryOk(t, m, length == 16)
		}
	}
}

func TestMemoryOkForAsManyCellsAsLines(t *testing.T) {
	m := impl.MemoryNew(impl.MaxMemory)
	for line := range impl.MaxMemory {
		m.Cells = append(m.Cells, impl.Cell{Line: line, Text: cellText(line)})
	}
	checkMemoryOk(t, m, true)
	m.Cells[999].Line = 1000
	checkMemoryOk(t, m, false)
	m.Cells[999].Line = 998
	checkMemoryOk(t, m, false)
}

func TestWordsOfAMemoryWithoutCells(t *testing.T) {
	for _, cells := range [][]impl.Cell{nil, {}} {
		m := impl.Memory{Kept: fourLines, Cells: cells}
		for at, want := range []string{"a-word-0", "a-word-1", "b-word-2", "b-word-3", "c-word-4", "c-word-5", "d-word-6", "d-word-7", "", "", ""} {
			checkWordAt(t, m, at, want)
		}
		for _, at := range indexesOfNothing {
			checkWordAt(t, m, at, "")
		}
	}
	for _, at := range append([]int{0, 1, 2}, indexesOfNothing...) {
		checkWordAt(t, impl.Memory{}, at, "")
	}
}

// A word of a cell is the current one, whether the line is flushed or not, and whatever the other cells are.
func TestWordsOfAMemoryWithCells(t *testing.T) {
	for _, flushed := range []bool{false, true} {
		for picked := range 16 {
			lines, want := []int{}, ""
			for line := range 4 {
				if picked>>line&1 == 1 {
					lines = append(lines, line)
					want += cellText(line)
				} else {
					want += fourLines[16*line : 16*line+16]
				}
			}
			m := memoryWith(flushed, lines...)
			for at := range 8 {
				checkWordAt(t, m, at, want[8*at:8*at+8])
			}
			for _, at := range append([]int{8, 9}, indexesOfNothing...) {
				checkWordAt(t, m, at, "")
			}
		}
	}
	m := memoryWith(false, 1)
	checkWordAt(t, m, 2, "cell-ab-")
	m.Cells[0].Text = "12345678abcdefgh"
	checkWordAt(t, m, 2, "12345678")
	checkWordAt(t, m, 3, "abcdefgh")
	checkWordAt(t, m, 1, "a-word-1")
	checkWordAt(t, m, 4, "c-word-4")
}

func TestStoresIntoLinesWithoutACell(t *testing.T) {
	for _, c := range []struct {
		at     int
		line   int
		stored string
	}{
		{0, 0, "new-worda-word-1"}, {1, 0, "a-word-0new-word"}, {2, 1, "new-wordb-word-3"}, {3, 1, "b-word-2new-word"},
		{4, 2, "new-wordc-word-5"}, {5, 2, "c-word-4new-word"}, {6, 3, "new-wordd-word-7"}, {7, 3, "d-word-6new-word"},
	} {
		want := impl.Memory{Kept: fourLines, Cells: []impl.Cell{{Line: c.line, Text: c.stored}}}
		checkStoreWord(t, memoryWith(false), c.at, "new-word", want)
	}
	one := impl.Memory{Kept: "\x00\x00\x00\x00\x00\x00\x00\x00\x00\x00\x00\x00\x00\x00\x00\x00", Cells: []impl.Cell{{Line: 0, Text: "\x00\x00\x00\x00\x00\x00\x00\x0012345678"}}}
	checkStoreWord(t, impl.MemoryNew(1), 1, "12345678", one)
}

// The new cell goes ahead of, between and behind the cells that are there, which stay as they are.
func TestStoresIntoLinesAmongCells(t *testing.T) {
	ahead, between, behind := memoryWith(true, 1, 3), memoryWith(true, 0, 3), memoryWith(true, 0, 1)
	cell := func(line int) impl.Cell { return impl.Cell{Line: line, Text: cellText(line), Flushed: true} }
	checkStoreWord(t, ahead, 1, "new-word", impl.Memory{Kept: fourLines, Cells: []impl.Cell{{Line: 0, Text: "a-word-0new-word"}, cell(1), cell(3)}})
	checkStoreWord(t, between, 4, "new-word", impl.Memory{Kept: fourLines, Cells: []impl.Cell{cell(0), {Line: 2, Text: "new-wordc-word-5"}, cell(3)}})
	checkStoreWord(t, behind, 7, "new-word", impl.Memory{Kept: fourLines, Cells: []impl.Cell{cell(0), cell(1), {Line: 3, Text: "d-word-6new-word"}}})
	checkStoreWord(t, behind, 5, "new-word", impl.Memory{Kept: fourLines, Cells: []impl.Cell{cell(0), cell(1), {Line: 2, Text: "c-word-4new-word"}}})
}

// A flushed cell is not flushed any more once its line is stored again; the other cells remain as they are.
func TestStoresIntoLinesWithACell(t *testing.T) {
	for _, flushed := range []bool{false, true} {
		for i, line := range []int{0, 1, 3} {
			before, after := memoryWith(flushed, 0, 1, 3), memoryWith(flushed, 0, 1, 3)
			old := cellText(line)
			after.Cells[i] = impl.Cell{Line: line, Text: "new-word" + old[8:]}
			checkStoreWord(t, before, 2*line, "new-word", after)
			after.Cells[i] = impl.Cell{Line: line, Text: old[:8] + "new-word"}
			checkStoreWord(t, before, 2*line+1, "new-word", after)
			after.Cells[i] = impl.Cell{Line: line, Text: old}
			checkStoreWord(t, before, 2*line+1, old[8:], after)
		}
	}
}

// A word that is already there makes a cell too, and so does any other byte than a letter.
func TestStoresOfAnyWord(t *testing.T) {
	checkStoreWord(t, memoryWith(false), 2, "b-word-2", impl.Memory{Kept: fourLines, Cells: []impl.Cell{{Line: 1, Text: "b-word-2b-word-3"}}})
	source := rand.New(rand.NewSource(10))
	for _, word := range append([]string{"\x00\x00\x00\x00\x00\x00\x00\x00", "\xff\xff\xff\xff\xff\xff\xff\xff", "\u00e9\u00e9\u00e9\u00e9", "        "}, randomText(source, 8)) {
		checkStoreWord(t, memoryWith(false), 3, word, impl.Memory{Kept: fourLines, Cells: []impl.Cell{{Line: 1, Text: "b-word-2" + word}}})
	}
	checkMemory(t, "a store into a new memory", impl.StoreWord(impl.MemoryNew(1), 0, strings.Repeat("\x00", 8)),
		impl.Memory{Kept: strings.Repeat("\x00", 16), Cells: []impl.Cell{{Line: 0, Text: strings.Repeat("\x00", 16)}}})
}

func TestStoresOfOtherLengths(t *testing.T) {
	for _, m := range validMemories() {
		for _, length := range []int{0, 1, 4, 7, 9, 12, 15, 16, 17, 32, 100} {
			for _, at := range []int{0, 1, 2, 3, 7} {
				checkStoreWord(t, m, at, textOf(length), m)
			}
		}
	}
}

func TestStoresAtOtherIndexes(t *testing.T) {
	for _, m := range validMemories() {
		words := len(m.Kept) / 8
		for _, at := range append([]int{words, words + 1, 8 * words, 2000}, indexesOfNothing...) {
			checkStoreWord(t, m, at, "new-word", m)
			checkStoreWord(t, m, at, "new", m)
		}
	}
}

func TestStoresIntoTheFirstAndTheLastWord(t *testing.T) {
	m := impl.MemoryNew(impl.MaxMemory)
	m = impl.StoreWord(impl.StoreWord(m, 1999, "the last"), 0, "the 1st ")
	zero := strings.Repeat("\x00", 8)
	want := impl.Memory{Kept: strings.Repeat("\x00", 16000), Cells: []impl.Cell{{Line: 0, Text: "the 1st " + zero}, {Line: 999, Text: zero + "the last"}}}
	checkMemory(t, "two stores", m, want)
	checkWordAt(t, m, 0, "the 1st ")
	checkWordAt(t, m, 1999, "the last")
	checkWordAt(t, m, 1998, zero)
	checkStoreWord(t, m, 2000, "too far ", m)
}

func TestFlushesOfLinesWithACell(t *testing.T) {
	for i, line := range []int{0, 1, 3} {
		want := memoryWith(false, 0, 1, 3)
		want.Cells[i].Flushed = true
		checkFlushLine(t, memoryWith(false, 0, 1, 3), line, want)
		checkFlushLine(t, want, line, want)
		checkFlushLine(t, memoryWith(true, 0, 1, 3), line, memoryWith(true, 0, 1, 3))
	}
}

func TestFlushesOfLinesWithoutACell(t *testing.T) {
	for _, line := range append([]int{2, 4, 5, 6, 7}, indexesOfNothing...) {
		checkFlushLine(t, memoryWith(false, 0, 1, 3), line, memoryWith(false, 0, 1, 3))
		checkFlushLine(t, memoryWith(true, 0, 1, 3), line, memoryWith(true, 0, 1, 3))
	}
	for _, line := range append([]int{0, 1, 2, 3, 4}, indexesOfNothing...) {
		checkFlushLine(t, memoryWith(false), line, memoryWith(false))
		checkFlushLine(t, impl.Memory{}, line, impl.Memory{})
	}
}

// Every set of flushed cells, of which a fence keeps those and no other ones.
func TestFencesOfEverySetOfCells(t *testing.T) {
	for picked := range 16 {
		m, want := memoryWith(false, 0, 1, 2, 3), impl.Memory{}
		for line := range 4 {
			if picked>>line&1 == 1 {
				m.Cells[line].Flushed = true
				want.Kept += cellText(line)
			} else {
				want.Kept += fourLines[16*line : 16*line+16]
				want.Cells = append(want.Cells, impl.Cell{Line: line, Text: cellText(line)})
			}
		}
		checkFence(t, m, want)
		checkFence(t, want, want)
	}
}

func TestFencesOfFewCells(t *testing.T) {
	for _, m := range []impl.Memory{{}, impl.MemoryNew(1), impl.MemoryNew(impl.MaxMemory), memoryWith(false), memoryWith(false, 2), memoryWith(false, 0, 3)} {
		checkFence(t, m, m)
	}
	checkFence(t, memoryWith(true, 0), impl.Memory{Kept: "cell-aa-cell-aa-" + fourLines[16:]})
	checkFence(t, memoryWith(true, 2), impl.Memory{Kept: fourLines[:32] + "cell-ac-cell-ac-" + fourLines[48:]})
	checkFence(t, memoryWith(true, 1, 3), impl.Memory{Kept: fourLines[:16] + "cell-ab-cell-ab-" + fourLines[32:48] + "cell-ad-cell-ad-"})
}

func TestALineThatIsStoredAgainAfterItsFlush(t *testing.T) {
	for _, c := range []struct {
		at     int
		word   string
		stored string
	}{
		{2, "second 2", "second 2b-word-3"}, {3, "second 3", "first  2second 3"}, {2, "first  2", "first  2b-word-3"}, {3, "b-word-3", "first  2b-word-3"},
	} {
		m := impl.FlushLine(impl.StoreWord(memoryWith(false), 2, "first  2"), 1)
		checkMemory(t, "a line that was flushed", m, impl.Memory{Kept: fourLines, Cells: []impl.Cell{{Line: 1, Text: "first  2b-word-3", Flushed: true}}})
		again := impl.StoreWord(m, c.at, c.word)
		want := impl.Memory{Kept: fourLines, Cells: []impl.Cell{{Line: 1, Text: c.stored}}}
		checkMemory(t, "a line that was stored again", again, want)
		checkFence(t, again, want)
		checkFallen(t, impl.Fence(again), 0, memoryWith(false))
		changed := impl.Memory{Kept: fourLines[:16] + c.stored + fourLines[32:]}
		checkFallen(t, impl.Fence(again), 1, changed)
		checkFence(t, impl.FlushLine(again, 1), changed)
		checkFence(t, impl.FlushLine(impl.Fence(again), 1), changed)
	}
}

// A store into another line, and one behind the fence, leave a flushed line flushed and a fenced one durable.
func TestALineBesideOneThatIsStoredAgain(t *testing.T) {
	m := impl.FlushLine(impl.StoreWord(memoryWith(false), 2, "first  2"), 1)
	m = impl.StoreWord(impl.StoreWord(m, 1, "other  1"), 4, "other  4")
	kept := fourLines[:16] + "first  2b-word-3" + fourLines[32:]
	open := []impl.Cell{{Line: 0, Text: "a-word-0other  1"}, {Line: 2, Text: "other  4c-word-5"}}
	checkFence(t, m, impl.Memory{Kept: kept, Cells: open})
	m = impl.StoreWord(impl.Fence(m), 3, "later  3")
	open = slices.Insert(open, 1, impl.Cell{Line: 1, Text: "first  2later  3"})
	checkMemory(t, "a store behind a fence", m, impl.Memory{Kept: kept, Cells: open})
	checkWordAt(t, m, 2, "first  2")
	checkFallen(t, m, 0, impl.Memory{Kept: kept})
}

// Every choice of surviving cells; that a line was flushed makes no difference without a fence.
func TestCrashesWithEveryChoice(t *testing.T) {
	for _, lines := range [][]int{{}, {2}, {0, 3}, {1, 2, 3}, {0, 1, 2, 3}} {
		for picks := range 64 {
			want := impl.Memory{Kept: fourLines}
			for i, line := range lines {
				if picks>>i&1 == 1 {
					want.Kept = want.Kept[:16*line] + cellText(line) + want.Kept[16*line+16:]
				}
			}
			for flushed := range 1 << len(lines) {
				m := memoryWith(false, lines...)
				for i := range lines {
					m.Cells[i].Flushed = flushed>>i&1 == 1
				}
				checkFallen(t, m, picks, want)
			}
			checkFallen(t, want, picks, want)
		}
	}
}

func TestCrashesWithNegativeNumbers(t *testing.T) {
	for _, m := range validMemories() {
		for _, picks := range []int{-1, -2, -3, -64, math.MinInt32, math.MinInt, math.MinInt + 1, math.MinInt + 3} {
			checkFallen(t, m, picks, m)
		}
	}
}

// The cells are counted, not their lines, and those that no bit is left for are lost.
func TestCrashesWithManyCells(t *testing.T) {
	for _, n := range []int{1, 2, 31, 32, 33, 61, 62, 63, 64, 65, 66, 127, 128, 129, 200, 500} {
		m, lines := manyCells(n)
		for bit := -1; bit < 63; bit++ {
			picks := 0
			if bit >= 0 {
				picks = 1 << bit
			}
			want := impl.Memory{}
			for i, line := range lines {
				if line.changed && i/2 == bit {
					want.Kept += line.current
				} else {
					want.Kept += line.durable
				}
			}
			checkFallen(t, m, picks, want)
		}
		want := impl.Memory{}
		for i, line := range lines {
			if line.changed && i/2 <= 62 {
				want.Kept += line.current
			} else {
				want.Kept += line.durable
			}
		}
		checkFallen(t, m, math.MaxInt, want)
	}
}

func TestCrashesWithACellForEveryLine(t *testing.T) {
	m := impl.MemoryNew(impl.MaxMemory)
	want := impl.Memory{}
	for line := range impl.MaxMemory {
		m.Cells = append(m.Cells, impl.Cell{Line: line, Text: cellText(line), Flushed: true})
		if line < 63 {
			want.Kept += cellText(line)
		}
	}
	want.Kept += strings.Repeat("\x00", 16000-len(want.Kept))
	checkFallen(t, m, math.MaxInt, want)
	checkFallen(t, m, 0, impl.MemoryNew(impl.MaxMemory))
}

// Two lines are fenced, the others are stored before or after the fence, flushed or not, and then any crash comes.
func TestFencedLinesSurviveEveryCrash(t *testing.T) {
	for one := range 4 {
		for two := range one {
			m := impl.StoreWord(impl.StoreWord(memoryWith(false), 2*one, "fenced 1"), 2*two+1, "fenced 2")
			for line := range 4 {
				m = impl.StoreWord(m, 2*line+(line+1)%2, "not yet ")
			}
			m = impl.StoreWord(impl.StoreWord(m, 2*one, "fenced 1"), 2*two+1, "fenced 2")
			m = impl.Fence(impl.FlushLine(impl.FlushLine(m, one), two))
			first, second := impl.WordAt(m, 2*one), impl.WordAt(m, 2*one+1)
			for line := range 4 {
				if line != one && line != two {
					m = impl.FlushLine(impl.StoreWord(m, 2*line, "later on"), line)
				}
			}
			for picks := range 32 {
				fallen := impl.FallenMemory(m, picks)
				checkWordAt(t, fallen, 2*one, "fenced 1")
				checkWordAt(t, fallen, 2*two+1, "fenced 2")
				checkWordAt(t, fallen, 2*one, first)
				checkWordAt(t, fallen, 2*one+1, second)
				checkUnsure(t, fallen, nil)
			}
		}
	}
}

// Lines that were fenced, and lines that never changed, among more lines than picks has bits; a negative number is no crash.
func TestFencedLinesAmongManySurviveEveryCrash(t *testing.T) {
	m, lines := manyCells(100)
	m = impl.Fence(m)
	choices := []int{0, math.MaxInt, -1, math.MinInt}
	for bit := range 63 {
		choices = append(choices, 1<<bit, math.MaxInt^1<<bit)
	}
	source := rand.New(rand.NewSource(12))
	for range 100 {
		choices = append(choices, source.Int())
	}
	for _, picks := range choices {
		fallen := impl.FallenMemory(m, picks)
		for i, line := range lines {
			if line.flushed || !line.changed {
				checkWordAt(t, fallen, 2*i, line.current[:8])
				checkWordAt(t, fallen, 2*i+1, line.current[8:])
			}
		}
	}
}

// A line that is stored after it was fenced has its fenced or its later contents after a crash, and nothing else.
func TestFencedLinesThatAreStoredLater(t *testing.T) {
	m := impl.Fence(impl.FlushLine(impl.StoreWord(memoryWith(false), 4, "fenced 4"), 2))
	m = impl.StoreWord(impl.StoreWord(m, 5, "later  5"), 0, "later  0")
	for picks := range 8 {
		fallen := impl.FallenMemory(m, picks)
		checkWordAt(t, fallen, 4, "fenced 4")
		checkWordAt(t, fallen, 0, []string{"a-word-0", "later  0"}[picks%2])
		checkWordAt(t, fallen, 5, []string{"c-word-5", "later  5"}[picks/2%2])
	}
}

func TestUnsureLines(t *testing.T) {
	checkUnsure(t, impl.Memory{}, nil)
	checkUnsure(t, memoryWith(false), nil)
	checkUnsure(t, memoryWith(false, 2), []int{2})
	checkUnsure(t, memoryWith(true, 0, 1, 3), []int{0, 1, 3})
	checkUnsure(t, memoryWith(false, 3, 1, 1, -5, 1000, math.MaxInt, math.MinInt), []int{3, 1, 1, -5, 1000, math.MaxInt, math.MinInt})
	checkUnsure(t, impl.Memory{Kept: "x", Cells: []impl.Cell{{Line: 7}, {Line: 6, Flushed: true}}}, []int{7, 6})
}

func TestMemoriesThatAreNotValid(t *testing.T) {
	for _, m := range invalidMemories() {
		checkNothingHappens(t, m)
	}
}

// All lists of up to five changes of a memory of two lines.
func TestEveryShortHistoryOfAMemory(t *testing.T) {
	changes := []memoryChange{
		storing(0, "new-word"), storing(1, "new-word"), storing(2, "new-word"), storing(3, "old-word"),
		flushing(0), flushing(1), fencing(), falling(0), falling(1), falling(2), falling(3),
	}
	var after func(m impl.Memory, lines memoryModel, more int)
	after = func(m impl.Memory, lines memoryModel, more int) {
		checkAsModelled(t, m, lines)
		if more == 0 || t.Failed() {
			return
		}
		for _, c := range changes {
			changed := slices.Clone(lines)
			c.onModel(changed)
			after(c.onMemory(m), changed, more-1)
		}
	}
	after(impl.Memory{Kept: fourLines[:32]}, modelOf(fourLines[:32]), 5)
}

func TestLongHistoriesOfAMemory(t *testing.T) {
	source := rand.New(rand.NewSource(11))
	for _, size := range []int{1, 2, 5, 40, 150} {
		m, lines := impl.MemoryNew(size), modelOf(strings.Repeat("\x00", 16*size))
		for range 400 {
			c := storing(source.Intn(2*size), randomText(source, 8))
			switch source.Intn(60 + 2*size) {
			case 0:
				c = falling(source.Int())
			case 1, 2, 3:
				c = fencing()
			default:
				if source.Intn(2) == 0 {
					c = flushing(source.Intn(size))
				}
			}
			m = c.onMemory(m)
			c.onModel(lines)
			checkAsModelled(t, m, lines)
		}
	}
}

// A memory that comes up again is treated as it was before, whatever was done to other ones in between.
func TestMemoriesOfLaterCalls(t *testing.T) {
	one, other := memoryWith(true, 1, 3), memoryWith(false, 0, 1)
	for range 3 {
		checkFence(t, one, impl.Memory{Kept: fourLines[:16] + cellText(1) + fourLines[32:48] + cellText(3)})
		checkWordAt(t, other, 2, "cell-ab-")
		checkStoreWord(t, other, 6, "new-word", impl.Memory{Kept: fourLines, Cells: append(memoryWith(false, 0, 1).Cells, impl.Cell{Line: 3, Text: "new-wordd-word-7"})})
		checkWordAt(t, other, 6, "d-word-6")
		checkFallen(t, other, 2, impl.Memory{Kept: fourLines[:16] + cellText(1) + fourLines[32:]})
		checkFence(t, other, other)
		checkMemory(t, "a new memory", impl.MemoryNew(2), impl.Memory{Kept: strings.Repeat("\x00", 32)})
	}
}

// memoryCalls call every function that returns a memory, so that the given one should change and so that it should not.
func memoryCalls() []func(m impl.Memory) impl.Memory {
	calls := []func(m impl.Memory) impl.Memory{impl.Fence}
	for _, at := range []int{-1, 0, 1, 3, 4, 6, 7, 8, 2000} {
		calls = append(calls, func(m impl.Memory) impl.Memory { return impl.StoreWord(m, at, "new-word") })
		calls = append(calls, func(m impl.Memory) impl.Memory { return impl.StoreWord(m, at, "new") })
		calls = append(calls, func(m impl.Memory) impl.Memory { return impl.FlushLine(m, at) })
	}
	for _, picks := range []int{-1, 0, 1, 2, 3, 10, math.MaxInt} {
		calls = append(calls, func(m impl.Memory) impl.Memory { return impl.FallenMemory(m, picks) })
	}
	return calls
}

// amongCells returns the cells as a part of a longer list, and that list, which has more cells ahead and as spare capacity.
func amongCells(cells []impl.Cell) ([]impl.Cell, []impl.Cell) {
	more := impl.Cell{Line: -77, Text: "not a cell of it"}
	whole := append([]impl.Cell{more, more}, cells...)
	whole = append(whole, more, more, more)
	return whole[2 : 2+len(cells)], whole
}

func TestMemoriesAreLeftAsTheyAre(t *testing.T) {
	for _, m := range append(validMemories(), invalidMemories()...) {
		part, whole := amongCells(m.Cells)
		before := slices.Clone(whole)
		given := impl.Memory{Kept: m.Kept, Cells: part}
		for i, call := range memoryCalls() {
			got := call(given)
			all := got.Cells[:cap(got.Cells)]
			for k := range all {
				all[k] = impl.Cell{Line: -99, Text: "changed"}
			}
			if !slices.Equal(whole, before) || given.Kept != m.Kept {
				t.Fatalf("call %d of a memory with %d bytes and %d cells shares memory with it or changes it", i, len(m.Kept), len(m.Cells))
			}
		}
		impl.MemoryOk(given)
		impl.WordAt(given, 1)
		lines := impl.Unsure(given)
		for k := range lines {
			lines[k] = -99
		}
		if !slices.Equal(whole, before) {
			t.Errorf("a memory with %d bytes and %d cells has changed", len(m.Kept), len(m.Cells))
		}
	}
}

func TestResultsStayAsTheyAreIfTheirArgumentsChange(t *testing.T) {
	for _, m := range append(validMemories(), invalidMemories()...) {
		for i, call := range memoryCalls() {
			part, whole := amongCells(m.Cells)
			got := call(impl.Memory{Kept: m.Kept, Cells: part})
			kept := slices.Clone(got.Cells)
			for k := range whole {
				whole[k] = impl.Cell{Line: -99, Text: "changed"}
			}
			if !slices.Equal(got.Cells, kept) {
				t.Fatalf("call %d of a memory with %d bytes and %d cells shares memory with it", i, len(m.Kept), len(m.Cells))
			}
		}
	}
}

// shareBytes reports whether two texts lie at the same place.
func shareBytes(a string, b string) bool {
	if a == "" || b == "" {
		return false
	}
	startOfA, startOfB := uintptr(unsafe.Pointer(unsafe.StringData(a))), uintptr(unsafe.Pointer(unsafe.StringData(b)))
	return startOfA < startOfB+uintptr(len(b)) && startOfB < startOfA+uintptr(len(a))
}

func textsIn(m impl.Memory) []string {
	texts := []string{m.Kept}
	for _, cell := range m.Cells {
		texts = append(texts, cell.Text)
	}
	return texts
}

func checkTextsApart(t *testing.T, what string, some []string, others []string) {
	t.Helper()
	for _, text := range some {
		for _, other := range others {
			if shareBytes(text, other) {
				t.Errorf("%s: a result shares the bytes of %.40q with an argument", what, text)
			}
		}
	}
}

func TestTextsOfResultsAreNew(t *testing.T) {
	word := strings.Clone("new-word")
	for _, m := range append(validMemories(), invalidMemories()...) {
		given := append(textsIn(m), word)
		for at := range 8 {
			checkTextsApart(t, "WordAt", []string{impl.WordAt(m, at)}, given)
			checkTextsApart(t, "StoreWord", textsIn(impl.StoreWord(m, at, word)), given)
		}
		for _, call := range memoryCalls() {
			checkTextsApart(t, "a call", textsIn(call(m)), given)
		}
	}
}
