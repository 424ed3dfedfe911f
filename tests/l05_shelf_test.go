package tests

import (
	"fmt"
	"math"
	"math/rand"
	"slices"
	"strings"
	"testing"

	"loop.example/g00526/impl"
)

// plainMerged looks for each cell of b in a and sorts afterwards.
func plainMerged(a, b []impl.Cell) []impl.Cell {
	merged := slices.Clone(a)
	for _, c := range b {
		if !slices.ContainsFunc(a, func(other impl.Cell) bool { return other.Key == c.Key }) {
			merged = append(merged, c)
		}
	}
	slices.SortFunc(merged, func(a, b impl.Cell) int { return strings.Compare(wantedText(a.Key), wantedText(b.Key)) })
	if len(merged) > 200 {
		return nil
	}
	return merged
}

// plainThinned decides each cell on its own, whatever their order.
func plainThinned(l []impl.Cell, keep, from int64) []impl.Cell {
	// latest holds for a cell that is one of the keep latest ones among those of its bin that are not later than from.
	latest := func(c impl.Cell) bool {
		before := int64(0)
		for _, other := range l {
			if sameBin(other, c) && other.Key.Time > c.Key.Time && other.Key.Time <= from {
				before++
			}
		}
		return c.Key.Time <= from && before < keep
	}
	// based holds if the cell, or one before it that remains, is not Gone.
	based := func(c impl.Cell) bool {
		for _, other := range l {
			if sameBin(other, c) && other.Key.Time <= c.Key.Time && latest(other) && !other.Gone {
				return true
			}
		}
		return false
	}
	var thinned []impl.Cell
	for _, c := range l {
		if c.Key.Time > from || latest(c) && based(c) {
			thinned = append(thinned, c)
		}
	}
	return thinned
}

func sameBin(a, b impl.Cell) bool { return a.Key.Row == b.Key.Row && a.Key.Bin == b.Key.Bin }

// shelfOfFrames returns the frames of all cells, valid or not, in any order.
func shelfOfFrames(l []impl.Cell) string {
	var texts []string
	for _, c := range l {
		texts = append(texts, wantedShow(c))
	}
	return fileOf(texts)
}

// plainShelf reads line by line.
func plainShelf(s string) ([]impl.Cell, bool) {
	var l []impl.Cell
	for line := range strings.Lines(s) {
		parts := strings.SplitN(strings.TrimSuffix(line, "\n"), " ", 3)
		if len(parts) != 3 || line != plainFramed(parts[2]) {
			return nil, false
		}
		c, ok := plainCell(parts[2])
		if !ok || len(l) > 0 && !wantedLess(l[len(l)-1].Key, c.Key) {
			return nil, false
		}
		l = append(l, c)
	}
	if len(l) > 200 {
		return nil, false
	}
	return l, true
}

// anyCells returns at most that many cells, many of which are of the same bin.
func anyCells(source *rand.Rand, count int) []impl.Cell {
	var l []impl.Cell
	for range source.Intn(count + 1) {
		l = plainPut(l, anyCell(source))
	}
	return l
}

// versions returns a list of one bin: a letter v for each cell with a value, g for each that is Gone, the latest first; the times
// fall by 10 down to the one given.
func versions(row, bin, letters string, last int64) []impl.Cell {
	var l []impl.Cell
	for i, letter := range letters {
		time := last + int64(len(letters)-1-i)*10
		if letter == 'g' {
			l = append(l, goneCell(row, bin, time))
		} else {
			l = append(l, cell(row, bin, time, time+1))
		}
	}
	return l
}

// longCells returns a valid list of that many cells, each with the longest text that a cell can have.
func longCells(count int) []impl.Cell {
	var l []impl.Cell
	for i := range count {
		l = append(l, cell("z"+strings.Repeat("y", 5)+string([]byte{'a' + byte(i/26), 'a' + byte(i%26)}), "zzzzzzzz", 1000000, leastWord))
	}
	return l
}

// overwrite changes everything that a result holds or has room for.
func overwrite(l []impl.Cell) {
	for i := range l[:cap(l)] {
		l[:cap(l)][i] = cell("other", "other", 1, 1)
	}
}

// checkMerged also checks that both lists stay as they were, with their unused capacity, and that the result is other memory.
func checkMerged(t *testing.T, a, b, want []impl.Cell) {
	t.Helper()
	for _, room := range []int{0, 1, 30} {
		left, leftWhole := roomy(a, room)
		right, rightWhole := roomy(b, room)
		leftBefore, rightBefore := slices.Clone(leftWhole), slices.Clone(rightWhole)
		got := impl.Merged(left, right)
		if !slices.Equal(got, want) {
			t.Errorf("Merged(%+v, %+v) = %+v, want %+v", a, b, got, want)
		}
		if !slices.Equal(leftWhole, leftBefore) || !slices.Equal(rightWhole, rightBefore) {
			t.Errorf("Merged(%+v, %+v) changed a list or its unused capacity", a, b)
		}
		overwrite(got)
		if !slices.Equal(leftWhole, leftBefore) || !slices.Equal(rightWhole, rightBefore) {
			t.Errorf("the result of Merged(%+v, %+v) shares memory with a list", a, b)
		}
	}
}

// checkThinned also checks that the list stays as it was, with its unused capacity, and that the result is other memory.
func checkThinned(t *testing.T, l []impl.Cell, keep, from int64, want []impl.Cell) {
	t.Helper()
	for _, room := range []int{0, 1, 30} {
		list, whole := roomy(l, room)
		before := slices.Clone(whole)
		got := impl.Thinned(list, keep, from)
		if !slices.Equal(got, want) {
			t.Errorf("Thinned(%+v, %d, %d) = %+v, want %+v", l, keep, from, got, want)
		}
		if !slices.Equal(whole, before) {
			t.Errorf("Thinned(%+v, %d, %d) changed the list or its unused capacity", l, keep, from)
		}
		overwrite(got)
		if !slices.Equal(whole, before) {
			t.Errorf("the result of Thinned(%+v, %d, %d) shares memory with the list", l, keep, from)
		}
	}
}

func checkShelfText(t *testing.T, l []impl.Cell, want string) {
	t.Helper()
	list, whole := roomy(l, 3)
	before := slices.Clone(whole)
	if got := impl.ShelfText(list); got != want {
		t.Errorf("ShelfText(%+v) = %s, want %s", l, shown(got), shown(want))
	}
	if !slices.Equal(whole, before) {
		t.Errorf("ShelfText(%+v) changed the list or its unused capacity", l)
	}
}

func checkShelfOf(t *testing.T, s string, want []impl.Cell, wantOk bool) {
	t.Helper()
	got, ok := impl.ShelfOf(s)
	if !slices.Equal(got, want) || ok != wantOk {
		t.Errorf("ShelfOf(%s) = %+v, %v, want %+v, %v", shown(s), got, ok, want, wantOk)
	}
	if ok && impl.ShelfText(got) != s {
		t.Errorf("ShelfOf(%s) is true, but ShelfText of the cells is %s", shown(s), shown(impl.ShelfText(got)))
	}
}

// checkNoShelf takes a text that is not that of any cells.
func checkNoShelf(t *testing.T, s string) {
	t.Helper()
	checkShelfOf(t, s, nil, false)
}

func checkShelfThereAndBack(t *testing.T, l []impl.Cell) {
	t.Helper()
	checkShelfText(t, l, shelfOfFrames(l))
	checkShelfOf(t, shelfOfFrames(l), l, true)
}

func TestMergedExamples(t *testing.T) {
	late, middle, early := cell("a", "b", 9, 2), cell("a", "b", 7, 1), goneCell("a", "b", 2)
	other, far := cell("a", "c", 5, 3), goneCell("b", "a", 4)
	for _, c := range []struct{ a, b, want []impl.Cell }{
		{[]impl.Cell{late}, []impl.Cell{early}, []impl.Cell{late, early}},
		{[]impl.Cell{early}, []impl.Cell{late}, []impl.Cell{late, early}},
		{[]impl.Cell{late, early}, []impl.Cell{middle}, []impl.Cell{late, middle, early}},
		{[]impl.Cell{middle}, []impl.Cell{late, early}, []impl.Cell{late, middle, early}},
		{[]impl.Cell{late, middle}, []impl.Cell{other, far}, []impl.Cell{late, middle, other, far}},
		{[]impl.Cell{other, far}, []impl.Cell{late, middle}, []impl.Cell{late, middle, other, far}},
		{[]impl.Cell{late, other}, []impl.Cell{middle, far}, []impl.Cell{late, middle, other, far}},
		{[]impl.Cell{middle, far}, []impl.Cell{late, other}, []impl.Cell{late, middle, other, far}},
		{[]impl.Cell{late, middle, early}, []impl.Cell{middle, far}, []impl.Cell{late, middle, early, far}},
	} {
		checkMerged(t, c.a, c.b, c.want)
	}
}

func TestMergedTakesTheCellOfTheFirstList(t *testing.T) {
	k := impl.Key{Row: "a", Bin: "b", Time: 7}
	same := []impl.Cell{{Key: k, Value: 5}, {Key: k, Value: -5}, {Key: k}, {Key: k, Gone: true}}
	around := []impl.Cell{cell("a", "b", 8, 1), cell("a", "b", 6, 1)}
	for _, first := range same {
		for _, second := range same {
			checkMerged(t, []impl.Cell{first}, []impl.Cell{second}, []impl.Cell{first})
			checkMerged(t, []impl.Cell{around[0], first, around[1]}, []impl.Cell{second}, []impl.Cell{around[0], first, around[1]})
			checkMerged(t, []impl.Cell{first}, []impl.Cell{around[0], second, around[1]}, []impl.Cell{around[0], first, around[1]})
			checkMerged(t, []impl.Cell{around[0], first}, []impl.Cell{second, around[1]}, []impl.Cell{around[0], first, around[1]})
			checkMerged(t, []impl.Cell{first, around[1]}, []impl.Cell{around[0], second}, []impl.Cell{around[0], first, around[1]})
		}
	}
	l := manyCells(30)
	gone := slices.Clone(l)
	for i := range gone {
		gone[i] = impl.Cell{Key: l[i].Key, Gone: true}
	}
	checkMerged(t, l, gone, l)
	checkMerged(t, gone, l, gone)
}

func TestMergedOfEmptyLists(t *testing.T) {
	for _, empty := range [][]impl.Cell{nil, {}} {
		if got := impl.Merged(empty, nil); len(got) != 0 {
			t.Error(got)
		}
		if got := impl.Merged(nil, empty); len(got) != 0 {
			t.Error(got)
		}
		for _, l := range [][]impl.Cell{nil, {}, {goneCell("a", "b", 0)}, {cell("zzzzzzzz", "z", 1000000, 1)}, manyCells(2), manyCells(199), manyCells(200)} {
			checkMerged(t, empty, l, l)
			checkMerged(t, l, empty, l)
			if got := impl.Merged(empty, l); !slices.Equal(got, l) {
				t.Error(got)
			}
		}
	}
}

func TestMergedOfTheSameListTwice(t *testing.T) {
	for _, count := range []int{0, 1, 2, 50, 100, 101, 199, 200} {
		l := manyCells(count)
		checkMerged(t, l, l, l)
		list, whole := roomy(l, 10)
		before := slices.Clone(whole)
		got := impl.Merged(list, list)
		if !slices.Equal(got, l) {
			t.Errorf("Merged of %d cells and the same memory = %+v", count, got)
		}
		overwrite(got)
		if !slices.Equal(whole, before) {
			t.Errorf("Merged of %d cells and the same memory shares memory with them", count)
		}
	}
}

// One list that is a part of the other's memory.
func TestMergedOfAListAndItsPart(t *testing.T) {
	l := manyCells(20)
	before := slices.Clone(l)
	for from := range len(l) + 1 {
		for end := from; end <= len(l); end++ {
			for _, got := range [][]impl.Cell{impl.Merged(l, l[from:end]), impl.Merged(l[from:end], l)} {
				if !slices.Equal(got, before) {
					t.Errorf("Merged with the part %d to %d = %+v", from, end, got)
				}
				overwrite(got)
			}
		}
	}
	if !slices.Equal(l, before) {
		t.Error("a result of Merged shares memory with the lists")
	}
}

func TestMergedUpToTheGreatestList(t *testing.T) {
	for _, count := range []int{199, 200, 201, 202, 300} {
		all := manyCells(count)
		want := all
		if count > 200 {
			want = nil
		}
		for _, cut := range []int{0, 1, 2, 50, 99, 100, 101, count - 200, count - 1, count} {
			if cut < 0 || cut > 200 || count-cut > 200 {
				continue
			}
			checkMerged(t, all[:cut], all[cut:], want)
			checkMerged(t, all[cut:], all[:cut], want)
		}
		var even, odd []impl.Cell
		for i, c := range all {
			if i%2 == 0 {
				even = append(even, c)
			} else {
				odd = append(odd, c)
			}
		}
		checkMerged(t, even, odd, want)
		checkMerged(t, odd, even, want)
	}
}

func TestMergedOfListsThatShareKeys(t *testing.T) {
	for _, c := range []struct{ size, other, shared int }{
		{200, 200, 200}, {200, 100, 100}, {200, 1, 1}, {200, 199, 199}, {150, 150, 100}, {101, 100, 1}, {199, 101, 100}, {200, 50, 50},
		{200, 200, 199}, {200, 100, 99}, {200, 1, 0}, {150, 150, 99}, {101, 100, 0}, {199, 101, 99}, {200, 200, 0},
	} {
		all := manyCells(c.size + c.other - c.shared)
		a, b := all[:c.size], slices.Clone(all[c.size-c.shared:])
		for i := range c.shared {
			b[i] = impl.Cell{Key: b[i].Key, Value: -9}
		}
		if len(all) > 200 {
			checkMerged(t, a, b, nil)
			checkMerged(t, b, a, nil)
			continue
		}
		checkMerged(t, a, b, all)
		checkMerged(t, b, a, append(slices.Clone(all[:c.size-c.shared]), b...))
	}
}

// Promise 5: Merged contains all cells.
func TestMergedContainsAllCells(t *testing.T) {
	source := rand.New(rand.NewSource(13))
	for range 400 {
		a, b := anyCells(source, 60), anyCells(source, 60)
		checkMerged(t, a, b, plainMerged(a, b))
		got := impl.Merged(a, b)
		for i := range got {
			if i > 0 && !wantedLess(got[i-1].Key, got[i].Key) {
				t.Errorf("Merged(%+v, %+v) = %+v, not sorted at %d", a, b, got, i)
			}
			if !slices.Contains(a, got[i]) && !slices.Contains(b, got[i]) {
				t.Errorf("Merged(%+v, %+v) contains %+v", a, b, got[i])
			}
		}
		for _, c := range a {
			if !slices.Contains(got, c) {
				t.Errorf("Merged(%+v, %+v) lacks %+v", a, b, c)
			}
		}
		for _, c := range b {
			if !slices.ContainsFunc(got, func(other impl.Cell) bool { return other.Key == c.Key }) {
				t.Errorf("Merged(%+v, %+v) lacks the key of %+v", a, b, c)
			}
		}
	}
}

// Whatever is found in a merged list is the later one of what is found in both.
func TestWhatIsFoundInMergedLists(t *testing.T) {
	source := rand.New(rand.NewSource(14))
	names := []string{"a", "aa", "ab", "b", "c"}
	for range 40 {
		a, b := anyCells(source, 40), anyCells(source, 40)
		merged := impl.Merged(a, b)
		for _, row := range names {
			for _, bin := range names {
				for _, time := range []int64{0, 1, 3, 5, 7, 8, 1000000} {
					want, is := plainFind(a, row, bin, time)
					if c, ok := plainFind(b, row, bin, time); ok && (!is || c.Key.Time > want.Key.Time) {
						want, is = c, true
					}
					checkFind(t, merged, row, bin, time, want, is)
				}
			}
		}
	}
}

func TestMergedRejects(t *testing.T) {
	for _, bad := range notLists() {
		for _, l := range [][]impl.Cell{nil, {cell("a", "b", 7, 5)}, {cell("zz", "b", 7, 5)}, manyCells(5), manyCells(200)} {
			checkMerged(t, bad, l, nil)
			checkMerged(t, l, bad, nil)
		}
		checkMerged(t, bad, bad, nil)
	}
	for _, c := range notCells() {
		checkMerged(t, []impl.Cell{c}, nil, nil)
		checkMerged(t, nil, []impl.Cell{c}, nil)
		checkMerged(t, []impl.Cell{c}, []impl.Cell{c}, nil)
	}
}

func TestMergedReturnsNewMemoryEachTime(t *testing.T) {
	a, b := manyCells(3), manyCells(6)[2:]
	for _, lists := range [][2][]impl.Cell{{a, b}, {a, nil}, {nil, b}, {a, a}} {
		first, second := impl.Merged(lists[0], lists[1]), impl.Merged(lists[0], lists[1])
		want := slices.Clone(second)
		overwrite(first)
		if !slices.Equal(second, want) {
			t.Errorf("two results of Merged(%+v, %+v) share memory", lists[0], lists[1])
		}
	}
}

func TestThinnedExamples(t *testing.T) {
	for _, c := range []struct {
		letters    string // the times fall by 10 down to 10
		keep, from int64
		kept       int
	}{
		{"vvv", 1, 9, 3}, {"vvv", 1, 10, 3}, {"vvv", 1, 11, 3}, {"vvv", 1, 19, 3}, {"vvv", 1, 20, 2}, {"vvv", 1, 21, 2}, {"vvv", 1, 29, 2}, {"vvv", 1, 30, 1}, {"vvv", 1, 31, 1},
		{"vvv", 2, 20, 3}, {"vvv", 2, 29, 3}, {"vvv", 2, 30, 2}, {"vvv", 2, 31, 2}, {"vvv", 3, 30, 3}, {"vvv", 3, 31, 3}, {"vvv", 9, 30, 3},
		{"vvv", 1, 0, 3}, {"vvv", 9, 0, 3}, {"vvv", 1, 1000000, 1}, {"vvv", 2, 1000000, 2}, {"vvv", 9, 1000000, 3},
		{"vvg", 3, 30, 2}, {"vvg", 2, 30, 2}, {"vvg", 1, 30, 1}, {"vvg", 1, 20, 2}, {"vvg", 1, 10, 2}, {"vvg", 1, 9, 3}, {"vvg", 2, 20, 2},
		{"vgg", 3, 30, 1}, {"vgg", 2, 30, 1}, {"vgg", 1, 30, 1}, {"vgg", 1, 20, 1}, {"vgg", 1, 19, 2}, {"vgg", 2, 20, 1}, {"vgg", 1, 9, 3},
		{"ggg", 3, 30, 0}, {"ggg", 1, 30, 0}, {"ggg", 1, 29, 1}, {"ggg", 9, 20, 1}, {"ggg", 9, 19, 2}, {"ggg", 9, 10, 2}, {"ggg", 9, 9, 3}, {"ggg", 1, 1000000, 0},
		{"vgv", 3, 30, 3}, {"vgv", 2, 30, 1}, {"vgv", 1, 30, 1}, {"vgv", 1, 20, 1}, {"vgv", 2, 20, 3}, {"vgv", 1, 19, 3},
		{"gvv", 1, 30, 0}, {"gvv", 2, 30, 2}, {"gvv", 3, 30, 3}, {"gvv", 1, 29, 2}, {"gvg", 3, 30, 2}, {"gvg", 2, 30, 2}, {"gvg", 1, 30, 0}, {"gvg", 2, 20, 2}, {"gvg", 1, 10, 2},
		{"ggv", 3, 30, 3}, {"ggv", 2, 30, 0}, {"ggv", 1, 30, 0}, {"ggv", 1, 20, 1}, {"ggv", 1, 10, 3}, {"ggv", 2, 20, 3},
		{"v", 1, 9, 1}, {"v", 1, 10, 1}, {"v", 1, 11, 1}, {"g", 1, 9, 1}, {"g", 1, 10, 0}, {"g", 1, 11, 0}, {"g", 9, 1000000, 0},
	} {
		l := versions("a", "b", c.letters, 10)
		checkThinned(t, l, c.keep, c.from, l[:c.kept])
	}
}

func TestThinnedOfTheEmptyList(t *testing.T) {
	for _, l := range [][]impl.Cell{nil, {}} {
		for keep := range int64(12) {
			for _, from := range []int64{-1, 0, 7, 1000000, 1000001} {
				if got := impl.Thinned(l, keep, from); len(got) != 0 {
					t.Error(got)
				}
			}
		}
	}
}

func TestThinnedAtBothEndsOfTheTime(t *testing.T) {
	last, middle, first := cell("a", "b", 1000000, 1), cell("a", "b", 1, 2), cell("a", "b", 0, 3)
	l := []impl.Cell{last, middle, first}
	checkThinned(t, l, 1, 0, l)
	checkThinned(t, l, 1, 1, l[:2])
	checkThinned(t, l, 1, 999999, l[:2])
	checkThinned(t, l, 1, 1000000, l[:1])
	checkThinned(t, l, 2, 1000000, l[:2])
	checkThinned(t, l, 3, 1000000, l)
	gone := []impl.Cell{goneCell("a", "b", 1000000), goneCell("a", "b", 0)}
	checkThinned(t, gone, 1, 0, gone[:1])
	checkThinned(t, gone, 1, 999999, gone[:1])
	checkThinned(t, gone, 1, 1000000, nil)
	checkThinned(t, gone, 9, 1000000, nil)
}

// Exactly keep cells that are not later than from, one fewer, and one more; with cells that are later, and without.
func TestThinnedKeepsTheLatest(t *testing.T) {
	for keep := int64(1); keep <= 9; keep++ {
		for count := range int(keep) + 3 {
			for later := range 4 {
				l := versions("a", "b", strings.Repeat("v", later+count), 10)
				from := int64(count) * 10
				kept := later + min(count, int(keep))
				checkThinned(t, l, keep, from, l[:kept])
				checkThinned(t, l, keep, from+9, l[:kept])
			}
		}
	}
}

func TestThinnedDropsTheEarliestThatAreGone(t *testing.T) {
	for keep := int64(1); keep <= 9; keep++ {
		for gone := range int(keep) + 1 {
			kept := strings.Repeat("v", int(keep)-gone)
			for _, earlier := range []string{"", "v", "g", "vg", "gv"} {
				letters := "gvg" + kept + strings.Repeat("g", gone) + earlier
				l := versions("a", "b", letters, 10)
				from := int64(len(letters)-3) * 10
				checkThinned(t, l, keep, from, l[:3+len(kept)])
			}
		}
	}
}

// Every sequence of up to six versions, at every time.
func TestThinnedOfEveryShortBin(t *testing.T) {
	for size := range 7 {
		for bits := range 1 << size {
			letters := make([]byte, size)
			for i := range letters {
				letters[i] = "vg"[bits>>i&1]
			}
			l := versions("a", "b", string(letters), 1)
			for keep := int64(1); keep <= 9; keep++ {
				for from := int64(0); from <= int64(size*10); from += 5 {
					checkThinned(t, l, keep, from, plainThinned(l, keep, from))
				}
			}
		}
	}
}

// Each bin is thinned on its own, also beside one whose name it begins.
func TestThinnedOfSeveralBins(t *testing.T) {
	names := []string{"a", "aa", "aaaaaaaa", "ab", "b"}
	var l, want []impl.Cell
	for i, row := range names {
		for j, bin := range names {
			of := versions(row, bin, []string{"vvv", "vgv", "ggg", "vvg", "gvv", "gg", "v"}[(i*len(names)+j)%7], 10)
			l = append(l, of...)
			want = append(want, plainThinned(of, 2, 25)...)
		}
	}
	checkCellsOk(t, "several bins", l, true)
	checkThinned(t, l, 2, 25, want)
	one := func(row, bin string) []impl.Cell { return []impl.Cell{cell(row, bin, 20, 1), cell(row, bin, 10, 2)} }
	for _, places := range [][4]string{{"a", "b", "a", "ba"}, {"a", "b", "a", "c"}, {"a", "b", "aa", "b"}, {"a", "b", "b", "b"}, {"a", "bc", "ab", "c"}, {"a", "aa", "aa", "a"}} {
		first, second := one(places[0], places[1]), one(places[2], places[3])
		checkThinned(t, append(slices.Clone(first), second...), 1, 20, []impl.Cell{first[0], second[0]})
		gone := []impl.Cell{goneCell(places[2], places[3], 10)}
		checkThinned(t, append(slices.Clone(first), gone...), 2, 20, first)
		gone = []impl.Cell{goneCell(places[0], places[1], 20)}
		checkThinned(t, append(slices.Clone(gone), second...), 2, 20, second)
	}
}

func TestThinnedOfTheGreatestList(t *testing.T) {
	l := manyCells(200)
	for keep := int64(1); keep <= 9; keep++ {
		for from := range int64(9) {
			checkThinned(t, l, keep, from, plainThinned(l, keep, from))
		}
	}
	checkThinned(t, l, 4, 1000000, l)
	long := longCells(200)
	checkThinned(t, long, 1, 1000000, long)
}

// Promise 5: Thinned gives the same results from a Time on.
func TestThinnedGivesTheSameFromATimeOn(t *testing.T) {
	source := rand.New(rand.NewSource(15))
	for range 150 {
		l := anyCells(source, 70)
		for _, from := range []int64{0, 1, 3, 5, 7, 8, source.Int63n(impl.MaxTime + 1), impl.MaxTime} {
			keep := 1 + source.Int63n(9)
			checkThinned(t, l, keep, from, plainThinned(l, keep, from))
			checkSameFrom(t, l, impl.Thinned(l, keep, from), from)
		}
	}
}

func checkSameFrom(t *testing.T, l, thinned []impl.Cell, from int64) {
	t.Helper()
	checkCellsOk(t, "thinned", thinned, true)
	for _, c := range l {
		row, bin := c.Key.Row, c.Key.Bin
		for _, time := range []int64{from, from + 1, from + 3, c.Key.Time - 1, c.Key.Time, c.Key.Time + 1, impl.MaxTime} {
			if time < from || time > impl.MaxTime {
				continue
			}
			want, wanted := plainFind(l, row, bin, time)
			got, found := impl.Find(thinned, row, bin, time)
			if wanted == found && want == got || wanted && want.Gone && !found {
				continue
			}
			t.Errorf("at %d, %s %s is %+v, %v in %+v, but %+v, %v in %+v, thinned from %d on", time, row, bin, want, wanted, l, got, found, thinned, from)
		}
	}
}

func TestThinnedAgain(t *testing.T) {
	source := rand.New(rand.NewSource(16))
	for range 100 {
		l := anyCells(source, 70)
		keep, from := 1+source.Int63n(9), source.Int63n(9)
		once := impl.Thinned(l, keep, from)
		checkThinned(t, once, keep, from, once)
	}
}

func TestThinnedRejects(t *testing.T) {
	lists := [][]impl.Cell{nil, {cell("a", "b", 7, 5)}, versions("a", "b", "vvvvvvvvvvvv", 0), manyCells(200)}
	for _, l := range lists {
		for _, keep := range []int64{0, 10, 11, -1, -9, 100, 257, 4294967296, 4294967297, -4294967295, math.MinInt64, math.MinInt64 + 1, math.MaxInt64} {
			for _, from := range []int64{-1, 0, 7, 1000000} {
				checkThinned(t, l, keep, from, nil)
			}
		}
		for _, from := range notTimes() {
			for _, keep := range []int64{0, 1, 5, 9} {
				checkThinned(t, l, keep, from, nil)
			}
		}
	}
	for _, bad := range notLists() {
		for _, keep := range []int64{0, 1, 9} {
			for _, from := range []int64{-1, 0, 5, 1000000} {
				checkThinned(t, bad, keep, from, nil)
			}
		}
	}
	for _, c := range notCells() {
		checkThinned(t, []impl.Cell{c}, 9, 0, nil)
		checkThinned(t, []impl.Cell{c}, 9, 1000000, nil)
	}
}

func TestThinnedReturnsNewMemoryEachTime(t *testing.T) {
	l := manyCells(9)
	for _, from := range []int64{0, 5, 1000000} {
		first, second := impl.Thinned(l, 2, from), impl.Thinned(l, 2, from)
		want := slices.Clone(second)
		overwrite(first)
		if !slices.Equal(second, want) {
			t.Errorf("two results of Thinned(%+v, 2, %d) share memory", l, from)
		}
	}
}

func TestShelfTextExamples(t *testing.T) {
	for _, c := range []struct {
		cells []impl.Cell
		want  string
	}{
		{nil, ""},
		{[]impl.Cell{}, ""},
		{[]impl.Cell{cell("a", "b", 3, 6)}, "7 19444 a b 3 6\n"},
		{[]impl.Cell{goneCell("a", "b", 7)}, "7 22558 a b 7 -\n"},
		{[]impl.Cell{goneCell("a", "b", 7), cell("a", "b", 3, 6)}, "7 22558 a b 7 -\n7 19444 a b 3 6\n"},
	} {
		checkShelfText(t, c.cells, c.want)
		checkShelfOf(t, c.want, c.cells, true)
	}
}

// Promise 5: ShelfOf of ShelfText is the shelf.
func TestShelfOfShelfTextIsTheShelf(t *testing.T) {
	source := rand.New(rand.NewSource(17))
	for range 300 {
		checkShelfThereAndBack(t, anyCells(source, 60))
	}
	for _, c := range someCells() {
		checkShelfThereAndBack(t, []impl.Cell{c})
	}
	for _, count := range []int{0, 1, 2, 3, 100, 199, 200} {
		checkShelfThereAndBack(t, manyCells(count))
		checkShelfThereAndBack(t, longCells(count))
	}
}

func TestShelfTextRejects(t *testing.T) {
	for _, bad := range notLists() {
		checkShelfText(t, bad, "")
	}
	for _, c := range notCells() {
		checkShelfText(t, []impl.Cell{c}, "")
		checkShelfText(t, []impl.Cell{cell("a", "a", 7, 5), c}, "")
	}
}

func TestShelfOfTruncatedTexts(t *testing.T) {
	l := []impl.Cell{cell("a", "b", 7, 5), goneCell("a", "b", 3), cell("abcdefgh", "c", 1000000, leastWord)}
	text := shelfOfFrames(l)
	for end := range len(text) {
		// A text that ends where a frame ends is that of fewer cells.
		if end == 0 || text[end-1] == '\n' {
			checkShelfOf(t, text[:end], l[:strings.Count(text[:end], "\n")], true)
		} else {
			checkNoShelf(t, text[:end])
		}
	}
	for from := 1; from < len(text); from++ {
		if text[from-1] == '\n' {
			checkShelfOf(t, text[from:], l[strings.Count(text[:from], "\n"):], true)
		} else {
			checkNoShelf(t, text[from:])
		}
	}
}

func TestShelfOfTextsWithSomethingMore(t *testing.T) {
	text := shelfOfFrames(manyCells(3))
	first := strings.Index(text, "\n") + 1
	for b := range 256 {
		other := string([]byte{byte(b)})
		checkNoShelf(t, other+text)
		checkNoShelf(t, text+other)
		checkNoShelf(t, text[:first]+other+text[first:])
		checkNoShelf(t, other)
	}
	for _, part := range []string{"\n\n", "0 7 \n", "2 2022 ab\n", "a b 3 6\n", "7 19444 a b 3 6", "7 19444 a b 3 7\n", "8 19444 a b 3 6\n", "07 19444 a b 3 6\n", "7  19444 a b 3 6\n", "7 19444 a b 3 6\r\n", "\x00", text[:first-1]} {
		checkNoShelf(t, part+text)
		checkNoShelf(t, text+part)
		checkNoShelf(t, text[:first]+part+text[first:])
		checkNoShelf(t, part)
	}
}

func TestShelfOfFramesThatAreNoCells(t *testing.T) {
	good := plainFramed("a b 3 6")
	texts := append(someTexts(), "a b 3", "a b 3 6 ", " a b 3 6", "a  b 3 6", "a b 3 6 6", "a b 03 6", "a b 3 06", "a b 3 -0", "a b 3 +6", "a b -1 6", "a b 1000001 6", "a b 3 2147483648", "a b 3 -2147483649", "A b 3 6", "a B 3 6", "abcdefghi b 3 6", "a b 3 --", "a b 3 -6 -", "a\x01b\x010999997", "7 19444 a b 3 6", "")
	for _, text := range texts {
		checkNoShelf(t, plainFramed(text))
		checkNoShelf(t, good+plainFramed(text))
		checkNoShelf(t, plainFramed(text)+good)
	}
	for _, c := range notCells() {
		// What is gone is written without its Value, so that the text can be that of another cell, which is valid.
		if text := wantedShow(c); !strings.Contains(text, "\n") && (!c.Gone || !impl.KeyOk(c.Key)) {
			checkNoShelf(t, plainFramed(text))
			checkNoShelf(t, good+plainFramed(text))
			checkNoShelf(t, plainFramed(text)+good)
		}
	}
}

func TestShelfOfCellsThatAreNotSorted(t *testing.T) {
	for what, bad := range notLists() {
		if !slices.ContainsFunc(bad, func(c impl.Cell) bool { return !impl.CellOk(c) }) && len(bad) <= 200 {
			t.Run(what, func(t *testing.T) { checkNoShelf(t, shelfOfFrames(bad)) })
		}
	}
	for _, a := range someKeys() {
		for _, b := range someKeys() {
			l := []impl.Cell{{Key: a, Value: 1}, {Key: b, Gone: true}}
			if wantedLess(a, b) {
				checkShelfOf(t, shelfOfFrames(l), l, true)
			} else {
				checkNoShelf(t, shelfOfFrames(l))
			}
		}
	}
}

func TestShelfOfTooManyFrames(t *testing.T) {
	for _, count := range []int{199, 200, 201, 202, 300} {
		for what, l := range map[string][]impl.Cell{"many": manyCells(count), "long": longCells(count)} {
			t.Run(fmt.Sprint(count, " ", what), func(t *testing.T) {
				if count <= 200 {
					checkShelfOf(t, shelfOfFrames(l), l, true)
				} else {
					checkNoShelf(t, shelfOfFrames(l))
				}
			})
		}
	}
	// Longer than any file.
	for _, text := range []string{shelfOfFrames(manyCells(2000)), strings.Repeat(plainFramed("a b 3 6"), 3000), strings.Repeat("\n", 20001), strings.Repeat("7", 100000)} {
		checkNoShelf(t, text)
	}
}

// Whatever one change makes of a shelf's text, ShelfOf takes it only if it is the text of the cells that it returns.
func TestShelfOfChangedTexts(t *testing.T) {
	text := shelfOfFrames([]impl.Cell{cell("a", "b", 7, 5), goneCell("a", "b", 3), cell("a", "c", 0, -1)})
	for i := range len(text) + 1 {
		for b := range 256 {
			other := string([]byte{byte(b)})
			checkChangedShelf(t, text[:i]+other+text[i:])
			if i < len(text) {
				checkChangedShelf(t, text[:i]+other+text[i+1:])
			}
		}
		for end := i; end <= len(text); end++ {
			checkChangedShelf(t, text[:i]+text[end:])
			checkChangedShelf(t, text[:end]+text[i:])
		}
	}
}

func checkChangedShelf(t *testing.T, s string) {
	t.Helper()
	l, ok := plainShelf(s)
	checkShelfOf(t, s, l, ok)
}

func TestShelfOfReturnsNewMemoryEachTime(t *testing.T) {
	text := shelfOfFrames(manyCells(5))
	first, _ := impl.ShelfOf(text)
	second, _ := impl.ShelfOf(text)
	overwrite(first)
	if !slices.Equal(second, manyCells(5)) {
		t.Error("two results of ShelfOf share memory")
	}
}
