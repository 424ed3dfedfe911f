package tests

import (
	"fmt"
	"math/rand"
	"regexp"
	"slices"
	"strconv"
	"strings"
	"testing"

	"loop.example/g00526/impl"
)

func cell(row, bin string, time, value int64) impl.Cell {
	return impl.Cell{Key: impl.Key{Row: row, Bin: bin, Time: time}, Value: value}
}

func goneCell(row, bin string, time int64) impl.Cell {
	return impl.Cell{Key: impl.Key{Row: row, Bin: bin, Time: time}, Gone: true}
}

// someCells returns valid cells: all the edge words, and keys with names that are the beginning of others and with both ends of the time.
func someCells() []impl.Cell {
	var cells []impl.Cell
	for _, value := range edgeWords() {
		cells = append(cells, cell("a", "b", 7, value))
	}
	for _, k := range someKeys() {
		cells = append(cells, impl.Cell{Key: k, Value: 5}, impl.Cell{Key: k}, impl.Cell{Key: k, Gone: true})
	}
	return cells
}

// notCells returns cells with an invalid key, with a value that is not a word, and with a value although they are gone.
func notCells() []impl.Cell {
	var cells []impl.Cell
	for _, k := range notKeys() {
		cells = append(cells, impl.Cell{Key: k}, impl.Cell{Key: k, Value: 5}, impl.Cell{Key: k, Gone: true})
	}
	for _, n := range notWords() {
		cells = append(cells, cell("a", "b", 7, n), impl.Cell{Key: impl.Key{Row: "a", Bin: "b", Time: 7}, Value: n, Gone: true})
	}
	for _, n := range edgeWords() {
		if n != 0 {
			cells = append(cells, impl.Cell{Key: impl.Key{Row: "a", Bin: "b", Time: 7}, Value: n, Gone: true})
		}
	}
	return append(cells, impl.Cell{}, impl.Cell{Value: 1}, impl.Cell{Gone: true})
}

// manyCells returns a valid list of that many cells: versions 1, 3, 5 and 7 of bins of several rows.
func manyCells(count int) []impl.Cell {
	var cells []impl.Cell
	for row := 'a'; len(cells) < count; row++ {
		for _, bin := range []string{"b", "ba", "c"} {
			for time := int64(7); time > 0; time -= 2 {
				cells = append(cells, cell("r"+string(row), bin, time, time))
			}
		}
	}
	return cells[:count]
}

// notLists returns lists that are not cells, with the reason at each.
func notLists() map[string][]impl.Cell {
	good := manyCells(5)
	lists := map[string][]impl.Cell{
		"times rise":            {cell("a", "b", 3, 1), cell("a", "b", 7, 1)},
		"bins fall":             {cell("a", "c", 7, 1), cell("a", "b", 7, 1)},
		"rows fall":             {cell("b", "b", 7, 1), cell("a", "b", 7, 1)},
		"bins fall over times":  {cell("a", "ba", 7, 1), cell("a", "b", 3, 1)},
		"equal keys":            {cell("a", "b", 7, 1), cell("a", "b", 7, 1)},
		"equal keys, other":     {cell("a", "b", 7, 1), cell("a", "b", 7, 2)},
		"equal keys, gone":      {cell("a", "b", 7, 0), goneCell("a", "b", 7)},
		"equal keys at the end": append(slices.Clone(good), good[4]),
		"last before first":     append(slices.Clone(good), cell("a", "b", 7, 1)),
		"first after last":      append([]impl.Cell{cell("z", "b", 7, 1)}, good...),
		"201 cells":             manyCells(201),
		"300 cells":             manyCells(300),
		"200 cells unsorted":    append(manyCells(199), cell("a", "b", 7, 1)),
	}
	for i := range good {
		if i > 0 {
			swapped := slices.Clone(good)
			swapped[i-1], swapped[i] = swapped[i], swapped[i-1]
			lists[fmt.Sprint("swapped at ", i)] = swapped
		}
		for j, bad := range notCells() {
			list := slices.Clone(good)
			list[i] = bad
			lists[fmt.Sprint("cell ", j, " at ", i)] = list
		}
		for _, value := range []int64{leastWord - 1, greatestWord + 1} {
			list := slices.Clone(good)
			list[i].Value = value
			lists[fmt.Sprint("value ", value, " at ", i)] = list
		}
		list := slices.Clone(good)
		list[i].Gone = true
		lists[fmt.Sprint("gone with a value at ", i)] = list
	}
	return lists
}

// plainPut keeps the cells in any order and sorts them afterwards.
func plainPut(l []impl.Cell, c impl.Cell) []impl.Cell {
	put := []impl.Cell{c}
	for _, other := range l {
		if other.Key != c.Key {
			put = append(put, other)
		}
	}
	slices.SortFunc(put, func(a, b impl.Cell) int { return strings.Compare(wantedText(a.Key), wantedText(b.Key)) })
	return put
}

// plainFind looks at every cell.
func plainFind(l []impl.Cell, row, bin string, time int64) (impl.Cell, bool) {
	found, is := impl.Cell{}, false
	for _, c := range l {
		if c.Key.Row == row && c.Key.Bin == bin && c.Key.Time <= time && (!is || c.Key.Time > found.Key.Time) {
			found, is = c, true
		}
	}
	return found, is
}

var cellForm = regexp.MustCompile(`\A([a-z]{1,8}) ([a-z]{1,8}) (0|[1-9][0-9]{0,6}) (-|0|-?[1-9][0-9]{0,9})\z`)

func plainCell(s string) (impl.Cell, bool) {
	parts := cellForm.FindStringSubmatch(s)
	if parts == nil {
		return impl.Cell{}, false
	}
	time, _ := strconv.ParseInt(parts[3], 10, 64)
	value, _ := strconv.ParseInt(parts[4], 10, 64)
	if time > 1000000 || value < leastWord || value > greatestWord {
		return impl.Cell{}, false
	}
	return impl.Cell{Key: impl.Key{Row: parts[1], Bin: parts[2], Time: time}, Value: value, Gone: parts[4] == "-"}, true
}

func wantedShow(c impl.Cell) string {
	if c.Gone {
		return fmt.Sprintf("%s %s %d -", c.Key.Row, c.Key.Bin, c.Key.Time)
	}
	return fmt.Sprintf("%s %s %d %d", c.Key.Row, c.Key.Bin, c.Key.Time, c.Value)
}

// roomy returns a copy of a list, and the same memory with its unused capacity, which is filled.
func roomy(l []impl.Cell, room int) ([]impl.Cell, []impl.Cell) {
	whole := make([]impl.Cell, len(l)+room)
	copy(whole, l)
	for i := len(l); i < len(whole); i++ {
		whole[i] = cell("room", "room", int64(i), -7)
	}
	return whole[:len(l)], whole
}

// checkPut also checks that the list stays as it was, its unused capacity among it, and that the result is other memory.
func checkPut(t *testing.T, l []impl.Cell, c impl.Cell, want []impl.Cell, wantOk bool) {
	t.Helper()
	for _, room := range []int{0, 1, 5} {
		list, whole := roomy(l, room)
		before := slices.Clone(whole)
		got, ok := impl.PutCell(list, c)
		if !slices.Equal(got, want) || ok != wantOk {
			t.Errorf("PutCell(%+v, %+v) = %+v, %v, want %+v, %v", l, c, got, ok, want, wantOk)
		}
		if !slices.Equal(whole, before) {
			t.Errorf("PutCell(%+v, %+v) changed the list or its unused capacity", l, c)
		}
		for i := range got[:cap(got)] {
			got[:cap(got)][i] = cell("other", "other", 1, 1)
		}
		if !slices.Equal(whole, before) {
			t.Errorf("the result of PutCell(%+v, %+v) shares memory with the list", l, c)
		}
	}
}

func checkFind(t *testing.T, l []impl.Cell, row, bin string, time int64, want impl.Cell, wantOk bool) {
	t.Helper()
	list, whole := roomy(l, 3)
	before := slices.Clone(whole)
	if got, ok := impl.Find(list, row, bin, time); got != want || ok != wantOk {
		t.Errorf("Find(%+v, %q, %q, %d) = %+v, %v, want %+v, %v", l, row, bin, time, got, ok, want, wantOk)
	}
	if !slices.Equal(whole, before) {
		t.Errorf("Find(%+v, %q, %q, %d) changed the list or its unused capacity", l, row, bin, time)
	}
}

func checkNotFound(t *testing.T, l []impl.Cell, row, bin string, time int64) {
	t.Helper()
	checkFind(t, l, row, bin, time, impl.Cell{}, false)
}

func checkCellsOk(t *testing.T, what string, l []impl.Cell, want bool) {
	t.Helper()
	list, whole := roomy(l, 3)
	before := slices.Clone(whole)
	if got := impl.CellsOk(list); got != want {
		t.Errorf("%s: CellsOk(%+v) = %v", what, l, got)
	}
	if !slices.Equal(whole, before) {
		t.Errorf("%s: CellsOk(%+v) changed the list or its unused capacity", what, l)
	}
}

func checkReadCell(t *testing.T, s string, want impl.Cell, wantOk bool) {
	t.Helper()
	got, ok := impl.ReadCell(s)
	if got != want || ok != wantOk {
		t.Errorf("ReadCell(%s) = %+v, %v, want %+v, %v", shown(s), got, ok, want, wantOk)
	}
	if ok && impl.ShowCell(got) != s {
		t.Errorf("ReadCell(%q) is true, but ShowCell of the cell is %q", s, impl.ShowCell(got))
	}
}

func TestMaxCells(t *testing.T) {
	if impl.MaxCells != 200 {
		t.Error(impl.MaxCells)
	}
}

func TestCellOk(t *testing.T) {
	for _, c := range someCells() {
		if !impl.CellOk(c) {
			t.Errorf("CellOk(%+v) = false", c)
		}
	}
	for _, c := range notCells() {
		if impl.CellOk(c) {
			t.Errorf("CellOk(%+v) = true", c)
		}
	}
}

func TestCellsOk(t *testing.T) {
	checkCellsOk(t, "no list", nil, true)
	checkCellsOk(t, "empty list", []impl.Cell{}, true)
	for _, c := range someCells() {
		checkCellsOk(t, "one cell", []impl.Cell{c}, true)
	}
	for _, c := range notCells() {
		checkCellsOk(t, "one cell that is not valid", []impl.Cell{c}, false)
	}
	for _, count := range []int{2, 3, 10, 198, 199, 200} {
		checkCellsOk(t, strconv.Itoa(count), manyCells(count), true)
	}
	for what, l := range notLists() {
		checkCellsOk(t, what, l, false)
	}
}

func TestCellsOkOfTwoCells(t *testing.T) {
	for _, a := range someKeys() {
		for _, b := range someKeys() {
			l := []impl.Cell{{Key: a, Value: 1}, {Key: b, Value: 1}}
			checkCellsOk(t, "two cells", l, wantedLess(a, b))
		}
	}
}

func TestPutCellExamples(t *testing.T) {
	late, early := cell("a", "b", 7, 5), cell("a", "b", 3, 6)
	checkPut(t, nil, late, []impl.Cell{late}, true)
	checkPut(t, []impl.Cell{}, late, []impl.Cell{late}, true)
	checkPut(t, []impl.Cell{late}, early, []impl.Cell{late, early}, true)
	checkPut(t, []impl.Cell{early}, late, []impl.Cell{late, early}, true)
	between := goneCell("a", "b", 5)
	checkPut(t, []impl.Cell{late, early}, between, []impl.Cell{late, between, early}, true)
	checkPut(t, []impl.Cell{late, early}, cell("a", "a", 1, 1), []impl.Cell{cell("a", "a", 1, 1), late, early}, true)
	checkPut(t, []impl.Cell{late, early}, cell("a", "ba", 9, 1), []impl.Cell{late, early, cell("a", "ba", 9, 1)}, true)
	checkPut(t, []impl.Cell{late, early}, cell("aa", "a", 9, 1), []impl.Cell{late, early, cell("aa", "a", 9, 1)}, true)
}

func TestPutCellReplaces(t *testing.T) {
	l := manyCells(6)
	for i := range l {
		for _, c := range []impl.Cell{{Key: l[i].Key, Value: -9}, {Key: l[i].Key}, {Key: l[i].Key, Gone: true}, l[i]} {
			want := slices.Clone(l)
			want[i] = c
			checkPut(t, l, c, want, true)
		}
	}
	gone := []impl.Cell{goneCell("a", "b", 7)}
	checkPut(t, gone, cell("a", "b", 7, 0), []impl.Cell{cell("a", "b", 7, 0)}, true)
}

func TestPutCellInAnyOrder(t *testing.T) {
	source := rand.New(rand.NewSource(10))
	for range 30 {
		var l []impl.Cell
		for range 1 + source.Intn(60) {
			c := anyCell(source)
			want := plainPut(l, c)
			checkPut(t, l, c, want, true)
			l = want
			checkCellsOk(t, "after a put", l, true)
		}
	}
}

// anyCell draws from few keys, so that many cells have the same bin or the same key.
func anyCell(source *rand.Rand) impl.Cell {
	names := []string{"a", "aa", "ab", "b"}
	k := impl.Key{Row: names[source.Intn(4)], Bin: names[source.Intn(4)], Time: source.Int63n(8)}
	if source.Intn(8) == 0 {
		k = anyKey(source)
	}
	if source.Intn(4) == 0 {
		return impl.Cell{Key: k, Gone: true}
	}
	return impl.Cell{Key: k, Value: edgeWords()[source.Intn(len(edgeWords()))]}
}

func TestPutCellUpToTheGreatestList(t *testing.T) {
	fresh := []impl.Cell{cell("a", "b", 7, 1), goneCell("rc", "b", 4), cell("rc", "b", 4, 1), cell("z", "b", 7, 1)}
	for _, count := range []int{198, 199, 200} {
		l := manyCells(count)
		for _, c := range fresh {
			if count < 200 {
				checkPut(t, l, c, plainPut(l, c), true)
			} else {
				checkPut(t, l, c, l, false)
			}
		}
		for _, i := range []int{0, 1, 100, count - 1} {
			c := impl.Cell{Key: l[i].Key, Gone: true}
			checkPut(t, l, c, plainPut(l, c), true)
		}
	}
}

func TestPutCellRejectsCells(t *testing.T) {
	for _, bad := range notCells() {
		for _, l := range [][]impl.Cell{nil, {cell("a", "b", 7, 5)}, {cell("a", "b", 9, 5), cell("a", "b", 7, 5), cell("z", "b", 7, 5)}} {
			checkPut(t, l, bad, l, false)
		}
	}
	full := manyCells(200)
	checkPut(t, full, impl.Cell{}, full, false)
	checkPut(t, full, impl.Cell{Key: full[3].Key, Value: 1, Gone: true}, full, false)
	checkPut(t, full, impl.Cell{Key: full[3].Key, Value: greatestWord + 1}, full, false)
}

func TestPutCellRejectsLists(t *testing.T) {
	for _, l := range notLists() {
		for _, c := range []impl.Cell{cell("a", "b", 7, 5), cell("ra", "b", 7, 5), goneCell("zz", "b", 0), l[0], {}, cell("a", "b", -1, 5)} {
			checkPut(t, l, c, nil, false)
		}
	}
}

func TestPutCellReturnsNewMemoryEachTime(t *testing.T) {
	l := manyCells(3)
	for _, c := range []impl.Cell{cell("a", "b", 1, 1), l[1], {}} {
		first, _ := impl.PutCell(l, c)
		second, _ := impl.PutCell(l, c)
		want := slices.Clone(second)
		_ = append(first[:0], cell("x", "x", 1, 1), cell("x", "x", 0, 1))
		if !slices.Equal(second, want) {
			t.Errorf("two results of PutCell(%+v, %+v) share memory", l, c)
		}
	}
}

func TestFindExamples(t *testing.T) {
	l := []impl.Cell{
		cell("a", "b", 9, 4), goneCell("a", "b", 7), cell("a", "b", 3, 6), cell("a", "ba", 8, 1), cell("aa", "b", 2, 2), cell("b", "a", 5, 3),
	}
	for _, c := range []struct {
		row, bin string
		time     int64
		at       int
	}{
		{"a", "b", 3, 2}, {"a", "b", 4, 2}, {"a", "b", 6, 2}, {"a", "b", 7, 1}, {"a", "b", 8, 1}, {"a", "b", 9, 0}, {"a", "b", 10, 0}, {"a", "b", 1000000, 0},
		{"a", "ba", 8, 3}, {"a", "ba", 9, 3}, {"aa", "b", 2, 4}, {"aa", "b", 9, 4}, {"b", "a", 5, 5}, {"b", "a", 1000000, 5},
	} {
		checkFind(t, l, c.row, c.bin, c.time, l[c.at], true)
	}
	for _, c := range []impl.Key{
		{Row: "a", Bin: "b", Time: 2}, {Row: "a", Bin: "b", Time: 0}, {Row: "a", Bin: "ba", Time: 7}, {Row: "aa", Bin: "b", Time: 1}, {Row: "b", Bin: "a", Time: 4},
		{Row: "a", Bin: "a", Time: 9}, {Row: "a", Bin: "c", Time: 9}, {Row: "a", Bin: "bb", Time: 9}, {Row: "aa", Bin: "ba", Time: 9}, {Row: "ab", Bin: "b", Time: 9}, {Row: "b", Bin: "b", Time: 9}, {Row: "c", Bin: "a", Time: 9},
	} {
		checkNotFound(t, l, c.Row, c.Bin, c.Time)
	}
}

func TestFindInTheEmptyList(t *testing.T) {
	for _, k := range someKeys() {
		checkNotFound(t, nil, k.Row, k.Bin, k.Time)
		checkNotFound(t, []impl.Cell{}, k.Row, k.Bin, k.Time)
	}
}

func TestFindAtBothEndsOfTheTime(t *testing.T) {
	first, last := cell("a", "b", 0, leastWord), cell("a", "b", 1000000, greatestWord)
	both := []impl.Cell{last, first}
	checkFind(t, both, "a", "b", 0, first, true)
	checkFind(t, both, "a", "b", 999999, first, true)
	checkFind(t, both, "a", "b", 1000000, last, true)
	checkFind(t, []impl.Cell{first}, "a", "b", 1000000, first, true)
	checkNotFound(t, []impl.Cell{last}, "a", "b", 999999)
	checkNotFound(t, []impl.Cell{last}, "a", "b", 0)
}

// Neighbouring bins, of which one is the beginning of the other, do not stand in for each other.
func TestFindInNeighbours(t *testing.T) {
	names := []string{"a", "aa", "aaaaaaaa", "ab", "b", "zzzzzzzz"}
	var l []impl.Cell
	for i, row := range names {
		for j, bin := range names {
			if (i+j)%2 == 0 {
				l = plainPut(plainPut(l, cell(row, bin, 10, int64(i))), cell(row, bin, 20, int64(j)))
			}
		}
	}
	for _, row := range names {
		for _, bin := range names {
			for _, time := range []int64{0, 9, 10, 11, 19, 20, 21, 1000000} {
				want, is := plainFind(l, row, bin, time)
				checkFind(t, l, row, bin, time, want, is)
			}
		}
	}
}

// Promise 4: a cell that was put is found, at its Time and later, until another one.
func TestAPutCellIsFoundUntilAnotherOne(t *testing.T) {
	source := rand.New(rand.NewSource(11))
	for range 60 {
		var l []impl.Cell
		for range 25 {
			c := anyCell(source)
			l = checkPutIsFound(t, l, c)
		}
		for _, row := range []string{"a", "aa", "ab", "b", "c"} {
			for _, bin := range []string{"a", "aa", "ab", "b", "c"} {
				for time := range int64(10) {
					want, is := plainFind(l, row, bin, time)
					checkFind(t, l, row, bin, time, want, is)
				}
			}
		}
	}
}

func checkPutIsFound(t *testing.T, l []impl.Cell, c impl.Cell) []impl.Cell {
	t.Helper()
	k := c.Key
	until := int64(impl.MaxTime + 1)
	for _, other := range l {
		if other.Key.Row == k.Row && other.Key.Bin == k.Bin && other.Key.Time > k.Time {
			until = min(until, other.Key.Time)
		}
	}
	put, ok := impl.PutCell(l, c)
	if !ok {
		t.Fatalf("PutCell(%+v, %+v) is false", l, c)
	}
	for _, time := range []int64{k.Time, k.Time + 1, (k.Time + until) / 2, until - 1} {
		if time < until {
			checkFind(t, put, k.Row, k.Bin, time, c, true)
		}
	}
	// Before its Time and from the next version on, what is found is what was found.
	for _, time := range []int64{0, k.Time - 1, until, until + 1, impl.MaxTime} {
		if time >= 0 && time <= impl.MaxTime && (time < k.Time || time >= until) {
			want, is := plainFind(l, k.Row, k.Bin, time)
			checkFind(t, put, k.Row, k.Bin, time, want, is)
		}
	}
	return put
}

func TestFindInTheGreatestList(t *testing.T) {
	l := manyCells(200)
	for _, c := range l {
		checkFind(t, l, c.Key.Row, c.Key.Bin, c.Key.Time, c, true)
		checkFind(t, l, c.Key.Row, c.Key.Bin, c.Key.Time+1, c, true)
	}
	checkNotFound(t, l, "ra", "b", 0)
	for _, c := range manyCells(201) {
		checkNotFound(t, manyCells(201), c.Key.Row, c.Key.Bin, c.Key.Time)
	}
}

func TestFindRejectsLists(t *testing.T) {
	for _, l := range notLists() {
		for _, c := range []impl.Cell{l[0], l[1], l[len(l)-1], cell("ra", "b", 7, 1), cell("ra", "b", 1000000, 1)} {
			checkNotFound(t, l, c.Key.Row, c.Key.Bin, c.Key.Time)
		}
	}
}

func TestFindRejectsKeys(t *testing.T) {
	l := []impl.Cell{cell("a", "b", 7, 5), cell("a", "b", 0, 6), cell("b", "b", 0, 6)}
	for _, k := range notKeys() {
		checkNotFound(t, l, k.Row, k.Bin, k.Time)
		checkNotFound(t, nil, k.Row, k.Bin, k.Time)
	}
}

func TestShowCellExamples(t *testing.T) {
	for _, c := range []struct {
		cell impl.Cell
		want string
	}{
		{cell("a", "b", 3, 6), "a b 3 6"},
		{cell("a", "b", 0, 0), "a b 0 0"},
		{goneCell("a", "b", 7), "a b 7 -"},
		{goneCell("a", "b", 0), "a b 0 -"},
		{cell("ab", "c", 10, -1), "ab c 10 -1"},
		{cell("a", "bc", 100, 10), "a bc 100 10"},
		{cell("abcdefgh", "stuvwxyz", 1000000, leastWord), "abcdefgh stuvwxyz 1000000 -2147483648"},
		{cell("zzzzzzzz", "a", 999999, greatestWord), "zzzzzzzz a 999999 2147483647"},
	} {
		if got := impl.ShowCell(c.cell); got != c.want {
			t.Errorf("ShowCell(%+v) = %q, want %q", c.cell, got, c.want)
		}
		checkReadCell(t, c.want, c.cell, true)
	}
}

func TestReadCellGivesBackTheCell(t *testing.T) {
	source := rand.New(rand.NewSource(12))
	cells := someCells()
	for range 5000 {
		cells = append(cells, anyCell(source), impl.Cell{Key: anyKey(source), Value: int64(int32(source.Uint32()))})
	}
	for _, c := range cells {
		if got := impl.ShowCell(c); got != wantedShow(c) {
			t.Errorf("ShowCell(%+v) = %q, want %q", c, got, wantedShow(c))
		}
		checkReadCell(t, wantedShow(c), c, true)
	}
}

func TestShowCellRejects(t *testing.T) {
	for _, c := range notCells() {
		if got := impl.ShowCell(c); got != "" {
			t.Errorf("ShowCell(%+v) = %q", c, got)
		}
		// What is gone is written without its Value, so that the text can be that of another cell, which is valid.
		if !c.Gone || !impl.KeyOk(c.Key) {
			checkReadCell(t, wantedShow(c), impl.Cell{}, false)
		}
	}
}

func TestReadCellRejectsParts(t *testing.T) {
	for _, s := range []string{
		"", " ", "  ", "   ", "    ", "-", "a", "a ", "a b", "a b ", "a b 3", "a b 3 ", "b 3 6", "a 3 6", "a b 6", " b 3 6", "a  3 6", "a b  6",
		"a b 3 6 ", " a b 3 6", "a  b 3 6", "a b  3 6", "a b 3  6", "  a b 3 6", "a b 3 6  ", "a b 3 6 6", "a b 3 6 -", "a b 3 - 6", "a b 3 - -", "a b c 3 6", "a b 3 6 a b 3 6", "a b 3 6\na b 3 6",
		"a b 3 -6 ", "a b 3 - ", " a b 3 -", "a b 3  -", "a b  3 -", "a b - 3", "a b - -", "a - 3 6", "- b 3 6", "- - - -", "a b 3 - 0", "a b -3 6", "a b -3 -", "a b -0 6", "a b - 3 6",
		"ab 3 6", "ab36", "a\tb\t3\t6", "a\x01b\x013\x016", "a,b,3,6", "a b 3\t6", "a b\n3 6", "a b 3 6\n", "\na b 3 6", "a b 3 6\r", "a b 3 6\x00", "a b 3 -\n", "a\u00a0b\u00a03\u00a06", "a b 3\u20096",
		"b a 6 3 ", "3 6 a b", "a 3 b 6", "3 b a 6", "a b 6 c", "a b c 6",
		strings.Repeat(" ", 1000), strings.Repeat("a b 3 6 ", 1000), "a b 3 " + strings.Repeat("6", 5000), strings.Repeat("a", 5000) + " b 3 6",
	} {
		checkReadCell(t, s, impl.Cell{}, false)
	}
}

func TestReadCellRejectsNumbers(t *testing.T) {
	for _, n := range []string{
		"", "00", "01", "007", "-00", "-01", "-0", "+0", "+7", "+", "--", "--7", "-+7", "7-", "-7-", "- 7", "7.", "7.0", ".7", "7e1", "0x7", "0b1", "0o7", "1_0", "7a", "a7", "a", "A",
		"2147483648", "-2147483649", "9999999999", "-9999999999", "10000000000", "-10000000000", "02147483647", "00000000007", "4294967296", "4294967303", "9223372036854775807", "9223372036854775808", "-9223372036854775808",
		"18446744073709551616", "18446744073709551623", "\u0667", "\uff17", "\u2212\u0037", "7\x00", "\x007", "\u20137", "/", ":", "\u2013", "_", "gone", "nil", "NaN", "Inf",
		strings.Repeat("0", 400), strings.Repeat("9", 400), "-" + strings.Repeat("9", 400),
	} {
		checkReadCell(t, "a b 3 "+n, impl.Cell{}, false)
		checkReadCell(t, "a b "+n+" 6", impl.Cell{}, false)
		checkReadCell(t, "a b "+n+" -", impl.Cell{}, false)
	}
	for _, time := range []string{"-", "-1", "-1000000", "1000001", "1000002", "9999999", "10000000", "2147483647", "-2147483648", "4294967299"} {
		checkReadCell(t, "a b "+time+" 6", impl.Cell{}, false)
		checkReadCell(t, "a b "+time+" -", impl.Cell{}, false)
	}
}

func TestReadCellRejectsNames(t *testing.T) {
	for _, name := range notNames() {
		checkReadCell(t, name+" b 3 6", impl.Cell{}, false)
		checkReadCell(t, "a "+name+" 3 6", impl.Cell{}, false)
		checkReadCell(t, name+" "+name+" 3 -", impl.Cell{}, false)
	}
}

// Whatever one change makes of a cell's text, ReadCell takes it only if it is the text of the cell that it returns.
func TestReadCellOfChangedTexts(t *testing.T) {
	for _, text := range []string{"a b 3 6", "a b 7 -", "abcdefgh z 1000000 -2147483648", "ab cd 0 0", "a zzzzzzzz 100000 2147483647"} {
		for i := range len(text) + 1 {
			for b := range 256 {
				other := string([]byte{byte(b)})
				checkChangedCell(t, text[:i]+other+text[i:])
				if i < len(text) {
					checkChangedCell(t, text[:i]+other+text[i+1:])
				}
			}
			for end := i; end <= len(text); end++ {
				checkChangedCell(t, text[:i]+text[end:])
				checkChangedCell(t, text[:end]+text[i:])
			}
		}
	}
}

func checkChangedCell(t *testing.T, s string) {
	t.Helper()
	c, ok := plainCell(s)
	checkReadCell(t, s, c, ok)
}
