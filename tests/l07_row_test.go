package tests

import (
	"fmt"
	"math"
	"math/rand"
	"slices"
	"strings"
	"testing"

	"loop.example/g00526/impl"
)

func bin(name string, value int64) impl.Bin { return impl.Bin{Name: name, Value: value} }

// binNames are rising; some are the beginning of others.
var binNames = []string{"a", "aa", "aaaaaaaa", "ab", "b", "ba", "bab", "c", "ca", "hay", "oats", "zz", "zzz", "zzzzzzzy", "zzzzzzzz"}

// manyBins returns that many bins, at most 15, with rising names.
func manyBins(count int) []impl.Bin {
	var l []impl.Bin
	for i, name := range binNames[:count] {
		l = append(l, bin(name, int64(10*i-20)))
	}
	return l
}

// someBins returns valid lists: of each length, with all the edge words, and any.
func someBins() [][]impl.Bin {
	lists := [][]impl.Bin{nil, {}, {bin("zzzzzzzz", 0)}, {bin("a", 1), bin("ab", 1)}, {bin("a", leastWord), bin("aaaaaaaa", greatestWord)}}
	for count := range 13 {
		lists = append(lists, manyBins(count))
	}
	for _, value := range edgeWords() {
		lists = append(lists, []impl.Bin{bin("b", value)}, []impl.Bin{bin("a", 0), bin("b", value), bin("c", 0)})
	}
	for _, name := range someNames() {
		lists = append(lists, []impl.Bin{bin(name, 5)})
	}
	source := rand.New(rand.NewSource(71))
	for range 20 {
		lists = append(lists, anyBins(source))
	}
	return lists
}

func anyBins(source *rand.Rand) []impl.Bin {
	var l []impl.Bin
	for range source.Intn(13) {
		name := binNames[source.Intn(len(binNames))]
		if source.Intn(3) == 0 {
			name = anyName(source)
		}
		l = plainSet(l, name, edgeWords()[source.Intn(len(edgeWords()))])
	}
	return l
}

// notBins returns lists that are not bins, with the reason at each.
func notBins() map[string][]impl.Bin {
	good := manyBins(5)
	lists := map[string][]impl.Bin{
		"names fall":               {bin("b", 1), bin("a", 1)},
		"the longer one first":     {bin("aa", 1), bin("a", 1)},
		"a name twice":             {bin("a", 1), bin("a", 1)},
		"a name twice, other":      {bin("a", 1), bin("a", 2)},
		"a name twice at the end":  append(slices.Clone(good), good[4]),
		"a name twice, apart":      append(slices.Clone(good), bin("a", 1)),
		"first after last":         append([]impl.Bin{bin("zz", 1)}, good...),
		"13 bins":                  manyBins(13),
		"14 bins":                  manyBins(14),
		"15 bins":                  manyBins(15),
		"12 bins and the last one": append(manyBins(12), manyBins(12)[11]),
		"12 bins, falling":         append(manyBins(12)[1:], manyBins(1)...),
		"300 times one bin":        slices.Repeat([]impl.Bin{bin("a", 1)}, 300),
		"300 empty bins":           make([]impl.Bin, 300),
	}
	for i, name := range notNames() {
		lists[fmt.Sprint("only name ", i)] = []impl.Bin{bin(name, 1)}
	}
	for i := range good {
		if i > 0 {
			swapped := slices.Clone(good)
			swapped[i-1], swapped[i] = swapped[i], swapped[i-1]
			lists[fmt.Sprint("swapped at ", i)] = swapped
		}
		for _, value := range notWords() {
			l := slices.Clone(good)
			l[i].Value = value
			lists[fmt.Sprint("value ", value, " at ", i)] = l
		}
	}
	// These names are at a place where the order is right, so that they are wrong in themselves.
	for i, name := range []string{"", "A", "`", "a ", "a\x01", "aA", "aaaaaaaaa", "b{", "zz9", "zzzzzzzzz", "{", "\xff"} {
		l := append(manyBins(11), bin(name, 1))
		slices.SortFunc(l, func(a, b impl.Bin) int { return strings.Compare(a.Name, b.Name) })
		lists[fmt.Sprint("name ", i, " among 12")] = l
	}
	return lists
}

// plainSet and plainCut keep the bins in a map and sort them afterwards.
func plainSet(l []impl.Bin, name string, value int64) []impl.Bin {
	values := valuesOf(l)
	values[name] = value
	return binsOfValues(values)
}

func plainCut(l []impl.Bin, name string) []impl.Bin {
	values := valuesOf(l)
	delete(values, name)
	return binsOfValues(values)
}

func valuesOf(l []impl.Bin) map[string]int64 {
	values := map[string]int64{}
	for _, b := range l {
		values[b.Name] = b.Value
	}
	return values
}

func binsOfValues(values map[string]int64) []impl.Bin {
	var l []impl.Bin
	for name, value := range values {
		l = append(l, bin(name, value))
	}
	slices.SortFunc(l, func(a, b impl.Bin) int { return strings.Compare(a.Name, b.Name) })
	return l
}

// plainBinsOf looks for each bin that ever was in the row at what is there at this time. It takes valid arguments.
func plainBinsOf(b impl.Barn, row string, time int64) []impl.Bin {
	names := map[string]bool{}
	for _, l := range tables(b) {
		for _, c := range l {
			names[c.Key.Bin] = names[c.Key.Bin] || c.Key.Row == row
		}
	}
	values := map[string]int64{}
	for name, inRow := range names {
		if inRow {
			if found, is := plainFindBarn(b, row, name, time); is && !found.Gone {
				values[name] = found.Value
			}
		}
	}
	if len(values) > 12 {
		return nil
	}
	return binsOfValues(values)
}

// roomyBins returns a copy of a list, and the same memory with its unused capacity, which is filled.
func roomyBins(l []impl.Bin, room int) ([]impl.Bin, []impl.Bin) {
	whole := make([]impl.Bin, len(l)+room)
	copy(whole, l)
	for i := len(l); i < len(whole); i++ {
		whole[i] = bin("room", int64(-i))
	}
	return whole[:len(l)], whole
}

// overwriteBins changes everything that a result holds or has room for.
func overwriteBins(l []impl.Bin) {
	for i := range l[:cap(l)] {
		l[:cap(l)][i] = bin("other", 99)
	}
}

// checkBins also checks that the list stays as it was, with its unused capacity, and that the result is other memory.
func checkBins(t *testing.T, what string, l []impl.Bin, call func([]impl.Bin) ([]impl.Bin, bool), want []impl.Bin, wantOk bool) {
	t.Helper()
	for _, room := range []int{0, 1, 20} {
		list, whole := roomyBins(l, room)
		before := slices.Clone(whole)
		got, ok := call(list)
		if !slices.Equal(got, want) || ok != wantOk {
			t.Errorf("%s of %+v = %+v, %v, want %+v, %v", what, l, got, ok, want, wantOk)
		}
		if !slices.Equal(whole, before) {
			t.Errorf("%s of %+v changed the list or its unused capacity", what, l)
		}
		overwriteBins(got)
		if !slices.Equal(whole, before) {
			t.Errorf("the result of %s of %+v shares memory with the list", what, l)
		}
	}
}

func checkSet(t *testing.T, l []impl.Bin, name string, value int64, want []impl.Bin, wantOk bool) {
	t.Helper()
	set := func(l []impl.Bin) ([]impl.Bin, bool) { return impl.SetBin(l, name, value) }
	checkBins(t, fmt.Sprintf("SetBin by %q and %d", name, value), l, set, want, wantOk)
}

func checkCut(t *testing.T, l []impl.Bin, name string, want []impl.Bin) {
	t.Helper()
	cut := func(l []impl.Bin) ([]impl.Bin, bool) { return impl.CutBin(l, name), true }
	checkBins(t, fmt.Sprintf("CutBin by %q", name), l, cut, want, true)
}

func checkBinsOk(t *testing.T, what string, l []impl.Bin, want bool) {
	t.Helper()
	check := func(l []impl.Bin) ([]impl.Bin, bool) { return nil, impl.BinsOk(l) }
	checkBins(t, what+": BinsOk", l, check, nil, want)
}

func checkValueIn(t *testing.T, l []impl.Bin, name string, want int64, wantOk bool) {
	t.Helper()
	list, whole := roomyBins(l, 3)
	before := slices.Clone(whole)
	if got, ok := impl.ValueIn(list, name); got != want || ok != wantOk {
		t.Errorf("ValueIn(%+v, %q) = %d, %v, want %d, %v", l, name, got, ok, want, wantOk)
	}
	if !slices.Equal(whole, before) {
		t.Errorf("ValueIn(%+v, %q) changed the list or its unused capacity", l, name)
	}
}

func checkBinsOf(t *testing.T, b impl.Barn, row string, time int64, want []impl.Bin) {
	t.Helper()
	for _, room := range []int{0, 5} {
		made, whole := roomyBarn(b, room)
		before := memoryOf(made, whole)
		got := impl.BinsOf(made, row, time)
		if !slices.Equal(got, want) {
			t.Errorf("BinsOf(%+v, %q, %d) = %+v, want %+v", b, row, time, got, want)
		}
		overwriteBins(got)
		if !before.unchanged() {
			t.Errorf("BinsOf(%+v, %q, %d) changed the store or its unused capacity", b, row, time)
		}
	}
}

// rowsOf returns every row of a store, and some that are not there.
func rowsOf(b impl.Barn) []string {
	rows := []string{"a", "aa", "zz"}
	for _, place := range placesOf(b) {
		if !slices.Contains(rows, place[0]) {
			rows = append(rows, place[0])
		}
	}
	return rows
}

// wideCells returns at most that many cells of few rows with many bins.
func wideCells(source *rand.Rand, count int) []impl.Cell {
	var l []impl.Cell
	for range source.Intn(count + 1) {
		c := anyCell(source)
		c.Key.Row, c.Key.Bin = []string{"a", "aa"}[source.Intn(2)], binNames[source.Intn(len(binNames))]
		l = plainPut(l, c)
	}
	return l
}

// wideBarn returns a valid store of which some rows have about as many bins as a list can have.
func wideBarn(source *rand.Rand, count int) impl.Barn {
	b := barn(wideCells(source, count))
	for range source.Intn(6) {
		if shelf := wideCells(source, count); len(shelf) > 0 {
			b.Shelves = append(b.Shelves, shelf)
		}
	}
	return b
}

// rowCells returns a cell of the row for each letter, v with a value and g Gone, all with the same time.
func rowCells(row, letters string, time int64) []impl.Cell {
	var l []impl.Cell
	for i, letter := range letters {
		if letter == 'g' {
			l = append(l, goneCell(row, binNames[i], time))
		} else {
			l = append(l, cell(row, binNames[i], time, int64(i)))
		}
	}
	return l
}

func TestMaxBins(t *testing.T) {
	if impl.MaxBins != 12 {
		t.Error(impl.MaxBins)
	}
}

func TestBinsOk(t *testing.T) {
	for _, l := range someBins() {
		checkBinsOk(t, "valid", l, true)
	}
	for what, l := range notBins() {
		checkBinsOk(t, what, l, false)
	}
}

func TestBinsOkOfEachCount(t *testing.T) {
	for count := range 16 {
		checkBinsOk(t, fmt.Sprint(count, " bins"), manyBins(count), count <= 12)
	}
}

func TestBinsOkOfTwoNames(t *testing.T) {
	for _, first := range someNames() {
		for _, second := range someNames() {
			checkBinsOk(t, "two bins", []impl.Bin{bin(first, 2), bin(second, 1)}, first < second)
		}
		for _, bad := range notNames() {
			checkBinsOk(t, "a name that is not valid", []impl.Bin{bin(first, 1), bin(bad, 1)}, false)
			checkBinsOk(t, "a name that is not valid", []impl.Bin{bin(bad, 1), bin(first, 1)}, false)
		}
	}
}

func TestBinsOkOfValues(t *testing.T) {
	for i := range 12 {
		for _, value := range edgeWords() {
			l := manyBins(12)
			l[i].Value = value
			checkBinsOk(t, "a word", l, true)
		}
		for _, value := range notWords() {
			l := manyBins(12)
			l[i].Value = value
			checkBinsOk(t, "not a word", l, false)
		}
	}
}

func TestValueInValidLists(t *testing.T) {
	for _, l := range someBins() {
		values := valuesOf(l)
		for _, name := range append(someNames(), binNames...) {
			value, is := values[name]
			checkValueIn(t, l, name, value, is)
		}
		for _, b := range l {
			checkValueIn(t, l, b.Name, b.Value, true)
		}
		for _, name := range notNames() {
			checkValueIn(t, l, name, 0, false)
		}
	}
}

// The list need not be valid: its first bin with this name counts, whatever else is in it.
func TestValueInAnyList(t *testing.T) {
	falling := []impl.Bin{bin("c", 3), bin("b", 2), bin("a", 1)}
	twice := []impl.Bin{bin("b", 7), bin("a", 5), bin("b", 8), bin("a", 6), bin("b", 9)}
	for _, b := range falling {
		checkValueIn(t, falling, b.Name, b.Value, true)
	}
	checkValueIn(t, falling, "d", 0, false)
	checkValueIn(t, twice, "a", 5, true)
	checkValueIn(t, twice, "b", 7, true)
	checkValueIn(t, twice[1:], "b", 8, true)
	checkValueIn(t, twice, "c", 0, false)
	checkValueIn(t, []impl.Bin{bin("a", 0), bin("a", 1)}, "a", 0, true)
	checkValueIn(t, []impl.Bin{bin("aa", 1), bin("a", 2)}, "a", 2, true)
	checkValueIn(t, []impl.Bin{bin("a", 1), bin("aa", 2), bin("a", 3)}, "aa", 2, true)
	for _, value := range notWords() {
		checkValueIn(t, []impl.Bin{bin("b", 1), bin("a", value), bin("a", 1)}, "a", value, true)
	}
	for _, l := range notBins() {
		seen := map[string]bool{}
		for _, b := range l {
			if !seen[b.Name] {
				checkValueIn(t, l, b.Name, b.Value, true)
			}
			seen[b.Name] = true
		}
		if !seen["nothing"] {
			checkValueIn(t, l, "nothing", 0, false)
		}
	}
	many := manyBins(15)
	checkValueIn(t, many, many[14].Name, many[14].Value, true)
}

func TestValueInOfNoNames(t *testing.T) {
	for _, name := range notNames() {
		for _, l := range [][]impl.Bin{nil, {}, manyBins(12), {bin("a", 1)}} {
			checkValueIn(t, l, name, 0, false)
		}
		checkValueIn(t, []impl.Bin{bin("a", 1), bin(name, 2), bin(name, 3)}, name, 2, true)
	}
	checkValueIn(t, []impl.Bin{{}}, "", 0, true)
	checkValueIn(t, []impl.Bin{{}}, "a", 0, false)
}

func TestSetBinExamples(t *testing.T) {
	checkSet(t, nil, "a", 5, []impl.Bin{bin("a", 5)}, true)
	checkSet(t, []impl.Bin{}, "a", 0, []impl.Bin{bin("a", 0)}, true)
	l := []impl.Bin{bin("b", 1), bin("d", 2)}
	checkSet(t, l, "a", 7, []impl.Bin{bin("a", 7), bin("b", 1), bin("d", 2)}, true)
	checkSet(t, l, "b", 7, []impl.Bin{bin("b", 7), bin("d", 2)}, true)
	checkSet(t, l, "ba", 7, []impl.Bin{bin("b", 1), bin("ba", 7), bin("d", 2)}, true)
	checkSet(t, l, "c", 7, []impl.Bin{bin("b", 1), bin("c", 7), bin("d", 2)}, true)
	checkSet(t, l, "d", 7, []impl.Bin{bin("b", 1), bin("d", 7)}, true)
	checkSet(t, l, "d", 0, []impl.Bin{bin("b", 1), bin("d", 0)}, true)
	checkSet(t, l, "d", 2, l, true)
	checkSet(t, l, "da", 7, []impl.Bin{bin("b", 1), bin("d", 2), bin("da", 7)}, true)
	checkSet(t, l, "zzzzzzzz", 7, []impl.Bin{bin("b", 1), bin("d", 2), bin("zzzzzzzz", 7)}, true)
}

func TestSetBinOfAnyBins(t *testing.T) {
	for _, l := range someBins() {
		for _, name := range binNames {
			want, fits := plainSet(l, name, 5), true
			if len(want) > 12 {
				want, fits = l, false
			}
			checkSet(t, l, name, 5, want, fits)
		}
	}
}

func TestSetBinOfEachNameAndWord(t *testing.T) {
	l := []impl.Bin{bin("aaaaaaaa", 1), bin("b", 2), bin("zza", 3)}
	for _, name := range someNames() {
		checkSet(t, l, name, 9, plainSet(l, name, 9), true)
	}
	for _, value := range edgeWords() {
		checkSet(t, l, "b", value, plainSet(l, "b", value), true)
		checkSet(t, l, "c", value, plainSet(l, "c", value), true)
	}
}

func TestSetBinUpToTheGreatestList(t *testing.T) {
	var full []impl.Bin
	for _, letter := range "bdfhjlnprtvx" {
		full = append(full, bin(string(letter), int64(letter)))
	}
	for count := 10; count <= 12; count++ {
		l := full[:count]
		for i := range l {
			checkSet(t, l, l[i].Name, -9, plainSet(l, l[i].Name, -9), true)
		}
		for _, letter := range "acegikmoqsuwyz" {
			if count < 12 {
				checkSet(t, l, string(letter), 1, plainSet(l, string(letter), 1), true)
			} else {
				checkSet(t, l, string(letter), 1, l, false)
			}
		}
	}
}

func TestSetBinRejectsNamesAndValues(t *testing.T) {
	for _, l := range [][]impl.Bin{nil, {}, {bin("a", 5)}, manyBins(6), manyBins(11), manyBins(12)} {
		for _, name := range notNames() {
			checkSet(t, l, name, 5, l, false)
			checkSet(t, l, name, greatestWord+1, l, false)
		}
		for _, value := range notWords() {
			checkSet(t, l, "a", value, l, false)
			checkSet(t, l, "m", value, l, false)
			checkSet(t, l, "zzzzzzzz", value, l, false)
		}
	}
}

func TestSetBinRejectsLists(t *testing.T) {
	for _, l := range notBins() {
		for _, name := range []string{"a", "m", "zzzzzzzz", "", "B", l[0].Name} {
			for _, value := range []int64{5, 0, leastWord - 1} {
				checkSet(t, l, name, value, nil, false)
			}
		}
	}
}

func TestCutBinExamples(t *testing.T) {
	checkCut(t, nil, "a", nil)
	checkCut(t, []impl.Bin{}, "a", nil)
	checkCut(t, []impl.Bin{bin("a", 5)}, "a", nil)
	checkCut(t, []impl.Bin{bin("a", 5)}, "b", []impl.Bin{bin("a", 5)})
	l := []impl.Bin{bin("a", 1), bin("aa", 2), bin("b", 3)}
	checkCut(t, l, "a", []impl.Bin{bin("aa", 2), bin("b", 3)})
	checkCut(t, l, "aa", []impl.Bin{bin("a", 1), bin("b", 3)})
	checkCut(t, l, "b", []impl.Bin{bin("a", 1), bin("aa", 2)})
	for _, name := range []string{"aaa", "ab", "ba", "c", "zzzzzzzz"} {
		checkCut(t, l, name, l)
	}
}

func TestCutBinOfAnyBins(t *testing.T) {
	for _, l := range someBins() {
		for _, name := range append(someNames(), binNames...) {
			checkCut(t, l, name, plainCut(l, name))
		}
		for _, b := range l {
			checkCut(t, l, b.Name, plainCut(l, b.Name))
		}
	}
}

// What is not a name is the name of no bin.
func TestCutBinOfNoNames(t *testing.T) {
	for _, l := range [][]impl.Bin{nil, {bin("a", 5)}, manyBins(6), manyBins(12)} {
		for _, name := range notNames() {
			checkCut(t, l, name, l)
		}
	}
}

func TestCutBinRejectsLists(t *testing.T) {
	for _, l := range notBins() {
		for _, name := range []string{"a", "m", "zzzzzzzz", "", "B", l[0].Name, l[len(l)-1].Name} {
			checkCut(t, l, name, nil)
		}
	}
}

// A bin that was set has its value and no other bin has another one; cut, it is there no more.
func TestSetBinsAndCutBins(t *testing.T) {
	source := rand.New(rand.NewSource(72))
	for range 100 {
		var l []impl.Bin
		values := map[string]int64{}
		for range 60 {
			name, value := binNames[source.Intn(len(binNames))], edgeWords()[source.Intn(len(edgeWords()))]
			if source.Intn(3) == 0 {
				l = impl.CutBin(l, name)
				delete(values, name)
			} else if made, ok := impl.SetBin(l, name, value); ok {
				l = made
				values[name] = value
			} else if _, there := values[name]; there || len(values) != 12 {
				t.Errorf("SetBin(%+v, %q, %d) = %+v, false", l, name, value, made)
			}
			if !impl.BinsOk(l) || !slices.Equal(l, binsOfValues(values)) {
				t.Fatalf("%+v, want %+v", l, values)
			}
			for _, other := range binNames {
				want, is := values[other]
				checkValueIn(t, l, other, want, is)
			}
		}
	}
}

func TestBinsAreNewMemoryEachTime(t *testing.T) {
	l := manyBins(12)
	for what, call := range map[string]func() []impl.Bin{
		"set":      func() []impl.Bin { made, _ := impl.SetBin(l, "b", 1); return made },
		"inserted": func() []impl.Bin { made, _ := impl.SetBin(l[:5], "m", 1); return made },
		"full":     func() []impl.Bin { made, _ := impl.SetBin(l, "m", 1); return made },
		"no name":  func() []impl.Bin { made, _ := impl.SetBin(l, "", 1); return made },
		"no word":  func() []impl.Bin { made, _ := impl.SetBin(l, "b", greatestWord+1); return made },
		"cut":      func() []impl.Bin { return impl.CutBin(l, "b") },
		"not cut":  func() []impl.Bin { return impl.CutBin(l, "m") },
		"bins of":  func() []impl.Bin { return impl.BinsOf(barn(rowCells("a", "vvvv", 7)), "a", 7) },
	} {
		one, two := call(), call()
		want := slices.Clone(two)
		overwriteBins(one)
		if !slices.Equal(two, want) || len(want) == 0 {
			t.Errorf("%s: two results share memory", what)
		}
	}
}

func TestBinsOfExamples(t *testing.T) {
	hay, oats, other := cell("a", "hay", 3, 5), cell("a", "oats", 4, 0), cell("aa", "hay", 1, 9)
	late := goneCell("a", "hay", 8)
	for _, b := range []impl.Barn{
		barn([]impl.Cell{late, hay, oats, other}), barn(nil, []impl.Cell{late, hay, oats, other}),
		barn([]impl.Cell{late}, []impl.Cell{hay, oats}, []impl.Cell{other}), barn([]impl.Cell{hay}, []impl.Cell{late, other}, []impl.Cell{oats}),
		barn([]impl.Cell{other}, []impl.Cell{hay}, []impl.Cell{oats}, []impl.Cell{late}), barn(nil, []impl.Cell{oats}, []impl.Cell{other}, []impl.Cell{late}, []impl.Cell{hay}),
	} {
		checkBinsOf(t, b, "a", 0, nil)
		checkBinsOf(t, b, "a", 2, nil)
		checkBinsOf(t, b, "a", 3, []impl.Bin{bin("hay", 5)})
		checkBinsOf(t, b, "a", 4, []impl.Bin{bin("hay", 5), bin("oats", 0)})
		checkBinsOf(t, b, "a", 7, []impl.Bin{bin("hay", 5), bin("oats", 0)})
		checkBinsOf(t, b, "a", 8, []impl.Bin{bin("oats", 0)})
		checkBinsOf(t, b, "a", 1000000, []impl.Bin{bin("oats", 0)})
		checkBinsOf(t, b, "aa", 0, nil)
		checkBinsOf(t, b, "aa", 1, []impl.Bin{bin("hay", 9)})
		checkBinsOf(t, b, "aa", 1000000, []impl.Bin{bin("hay", 9)})
		for _, row := range []string{"aaa", "ab", "b", "hay", "oats", "zzzzzzzz"} {
			checkBinsOf(t, b, row, 1000000, nil)
		}
	}
}

func TestBinsOfOneBin(t *testing.T) {
	for _, c := range someCells() {
		for _, b := range []impl.Barn{barn([]impl.Cell{c}), barn(nil, []impl.Cell{c})} {
			want := []impl.Bin{bin(c.Key.Bin, c.Value)}
			if c.Gone {
				want = nil
			}
			checkBinsOf(t, b, c.Key.Row, c.Key.Time, want)
			checkBinsOf(t, b, c.Key.Row, 1000000, want)
			if c.Key.Time > 0 {
				checkBinsOf(t, b, c.Key.Row, c.Key.Time-1, nil)
				checkBinsOf(t, b, c.Key.Row, 0, nil)
			}
			checkBinsOf(t, b, "q", 1000000, nil)
		}
	}
}

func TestBinsOfABinThatIsThereAgain(t *testing.T) {
	again := versions("a", "b", "vgvgv", 10)
	for _, b := range []impl.Barn{
		barn(again), barn(nil, again), barn(again[:2], again[2:]), barn(again[3:], again[:3]), barn(again[2:3], again[:2], again[3:]),
		barn(nil, again[4:], again[3:4], again[2:3], again[1:2], again[:1]), barn(again[:1], again[1:2], again[2:3], again[3:4], again[4:]),
	} {
		checkBinsOf(t, b, "a", 9, nil)
		for _, time := range []int64{10, 19, 30, 39, 50, 51, 1000000} {
			checkBinsOf(t, b, "a", time, []impl.Bin{bin("b", min(time/20*20+11, 51))})
		}
		for _, time := range []int64{20, 29, 40, 49} {
			checkBinsOf(t, b, "a", time, nil)
		}
	}
}

func TestBinsOfAtBothEndsOfTheTimeAndTheWords(t *testing.T) {
	first := []impl.Cell{cell("a", "b", 0, leastWord), goneCell("a", "c", 0), cell("a", "d", 0, 0)}
	last := []impl.Cell{cell("a", "b", 1000000, greatestWord), cell("a", "c", 1000000, 1), goneCell("a", "d", 1000000)}
	for _, b := range []impl.Barn{barn(first, last), barn(last, first), barn(nil, first, last), barn(nil, last, first)} {
		for _, time := range []int64{0, 1, 500000, 999999} {
			checkBinsOf(t, b, "a", time, []impl.Bin{bin("b", leastWord), bin("d", 0)})
		}
		checkBinsOf(t, b, "a", 1000000, []impl.Bin{bin("b", greatestWord), bin("c", 1)})
	}
	for _, b := range []impl.Barn{barn(last), barn(nil, last)} {
		checkBinsOf(t, b, "a", 0, nil)
		checkBinsOf(t, b, "a", 999999, nil)
		checkBinsOf(t, b, "a", 1000000, []impl.Bin{bin("b", greatestWord), bin("c", 1)})
	}
}

// Rows and bins, of which one is the beginning of the other, do not stand in for each other.
func TestBinsOfNeighbours(t *testing.T) {
	names := []string{"a", "aa", "aaaaaaaa", "ab", "b", "zzzzzzz", "zzzzzzzz"}
	var l []impl.Cell
	for i, row := range names {
		for j, name := range names {
			if (i+j)%3 != 0 {
				l = plainPut(l, cell(row, name, int64(10+j), int64(10*i+j)))
			}
		}
	}
	var even, odd []impl.Cell
	for i, c := range l {
		if i%2 == 0 {
			even = append(even, c)
		} else {
			odd = append(odd, c)
		}
	}
	for _, b := range []impl.Barn{barn(l), barn(nil, l), barn(even, odd), barn(nil, odd, even)} {
		for i, row := range names {
			var want []impl.Bin
			for j, name := range names {
				if (i+j)%3 != 0 {
					want = append(want, bin(name, int64(10*i+j)))
				}
				checkBinsOf(t, b, row, int64(10+j), want)
			}
			checkBinsOf(t, b, row, 9, nil)
			checkBinsOf(t, b, row, 1000000, want)
		}
		for _, row := range []string{"aaa", "aaaaaaa", "ac", "ba", "z", "zzzzzzzy"} {
			checkBinsOf(t, b, row, 1000000, nil)
		}
	}
}

func TestBinsOfTakesHandThenTheLatestShelf(t *testing.T) {
	k := impl.Key{Row: "a", Bin: "b", Time: 7}
	same := []impl.Cell{{Key: k, Value: 5}, {Key: k}, {Key: k, Gone: true}}
	for _, first := range same {
		want := []impl.Bin{bin("b", first.Value)}
		if first.Gone {
			want = nil
		}
		for _, second := range same {
			for _, third := range same {
				lists := [][]impl.Cell{{first}, {second}, {third}}
				for _, time := range []int64{7, 8, 1000000} {
					checkBinsOf(t, barn(lists[0], lists[1:]...), "a", time, want)
					checkBinsOf(t, barn(nil, lists...), "a", time, want)
					checkBinsOf(t, barn([]impl.Cell{cell("aa", "b", 7, 1)}, lists...), "a", time, want)
				}
				checkBinsOf(t, barn(lists[0], lists[1:]...), "a", 6, nil)
			}
		}
	}
}

func TestBinsOfUpToTheGreatestList(t *testing.T) {
	other := rowCells("b", "vvvvvvvvvvvvvvv", 1)
	for count := 10; count <= 15; count++ {
		l := rowCells("a", strings.Repeat("v", count), 7)
		var want []impl.Bin
		for i := range min(count, 12) {
			want = append(want, bin(binNames[i], int64(i)))
		}
		if count > 12 {
			want = nil
		}
		for _, b := range []impl.Barn{
			barn(l), barn(nil, l), barn(l[:5], l[5:]), barn(l[9:], l[:9]), barn(other, l), barn(l, other), barn(l[3:], other, l[:6], l[:3]), barn(nil, l[8:9], l[9:], l[:1], l[1:8], other), barn(l, l, l, l, l, l),
		} {
			checkBinsOf(t, b, "a", 7, want)
			checkBinsOf(t, b, "a", 1000000, want)
			checkBinsOf(t, b, "a", 6, nil)
		}
	}
}

// Bins that are Gone, or come later, do not count.
func TestBinsOfMoreBinsOfWhichSomeAreGone(t *testing.T) {
	for _, letters := range []string{"vvvvvvvvvvvvg", "gvvvvvvvvvvvv", "vvvgvvgvvvvvvvg", "ggggggggggggggg", "vgvgvgvgvgvgvgv", "gvvvvvvvvvvvvvv", "vvvvvvgvvvvvvvg", "vvvvvvvvvvvvgv"} {
		var want []impl.Bin
		for i, letter := range letters {
			if letter == 'v' {
				want = append(want, bin(binNames[i], int64(i)))
			}
		}
		if len(want) > 12 {
			want = nil
		}
		l, before, after := rowCells("a", letters, 7), rowCells("a", "vvvvvvvvvvvvvvv", 3), rowCells("a", "vvvvvvvvvvvvvvv", 9)
		checkBinsOf(t, barn(l), "a", 8, want)
		for _, b := range []impl.Barn{
			barn(l, before, after), barn(before, l, after), barn(after, before, l), barn(nil, l, before, after), barn(nil, after, l[:7], l[7:], before), barn(plainUnion([][]impl.Cell{l, before, after})),
		} {
			checkBinsOf(t, b, "a", 2, nil)
			checkBinsOf(t, b, "a", 3, plainBinsOf(b, "a", 3))
			checkBinsOf(t, b, "a", 7, plainBinsOf(b, "a", 7))
			checkBinsOf(t, b, "a", 9, nil)
			if len(letters) == 15 {
				checkBinsOf(t, b, "a", 8, want)
			}
		}
	}
}

// A row of which more bins than a list holds were there at some time, but at each time only one.
func TestBinsOfBinsOneAfterTheOther(t *testing.T) {
	var l []impl.Cell
	for i, name := range binNames {
		l = append(l, goneCell("a", name, int64(10*i+10)), cell("a", name, int64(10*i), int64(i)))
	}
	for _, b := range []impl.Barn{barn(l), barn(nil, l), barn(l[:9], l[9:]), barn(l[9:], l[:9])} {
		for i, name := range binNames {
			checkBinsOf(t, b, "a", int64(10*i), []impl.Bin{bin(name, int64(i))})
			checkBinsOf(t, b, "a", int64(10*i+9), []impl.Bin{bin(name, int64(i))})
		}
		checkBinsOf(t, b, "a", 150, nil)
	}
}

func TestBinsOfFullStores(t *testing.T) {
	full := manyCells(200)
	var shelves [][]impl.Cell
	for i := range 5 {
		shelves = append(shelves, spreadCells(200*i, 200, int64(10+i), int64(i)))
	}
	b := barn(full, shelves...)
	for _, row := range []string{"ra", "rb", "rq"} {
		for _, time := range []int64{0, 1, 2, 7, 1000000} {
			checkBinsOf(t, b, row, time, plainBinsOf(b, row, time))
		}
	}
	for i := range 5 {
		c := shelves[i][199]
		checkBinsOf(t, b, c.Key.Row, c.Key.Time, []impl.Bin{bin("x", int64(i))})
		checkBinsOf(t, b, c.Key.Row, c.Key.Time-1, nil)
	}
	var wide []impl.Cell
	for _, c := range spreadCells(0, 200, 7, 5) {
		wide = append(wide, cell("a", c.Key.Row, 7, 5))
	}
	checkBinsOf(t, barn(wide, wide, wide, wide, wide, wide), "a", 7, nil)
	checkBinsOf(t, barn(nil, full, wide), "a", 1000000, nil)
	checkBinsOf(t, barn(wide[:12], full), "a", 7, plainBinsOf(barn(wide[:12]), "a", 7))
}

func TestBinsOfRejects(t *testing.T) {
	l := rowCells("a", "vvvvv", 0)
	for _, b := range []impl.Barn{{}, barn(l), barn(nil, l), barn(l, manyCells(200), l)} {
		for _, row := range notNames() {
			checkBinsOf(t, b, row, 7, nil)
			checkBinsOf(t, b, row, -1, nil)
		}
		for _, time := range append(notTimes(), math.MinInt64+1000001) {
			checkBinsOf(t, b, "a", time, nil)
		}
	}
	for _, b := range notBarns() {
		checkBinsOf(t, b, "a", 1000000, nil)
		checkBinsOf(t, b, "ra", 7, nil)
	}
}

func TestBinsOfTheEmptyStore(t *testing.T) {
	for _, row := range someNames() {
		for _, time := range someTimes() {
			checkBinsOf(t, impl.Barn{}, row, time, nil)
			checkBinsOf(t, impl.Barn{Hand: []impl.Cell{}, Shelves: [][]impl.Cell{}}, row, time, nil)
		}
	}
}

// storesOfRows returns valid stores of not too many cells, among them some whose rows have about as many bins as a list can have.
func storesOfRows(seed int64) []impl.Barn {
	source := rand.New(rand.NewSource(seed))
	var stores []impl.Barn
	for _, b := range someBarns() {
		if len(plainUnion(tables(b))) < 60 {
			stores = append(stores, b)
		}
	}
	for range 40 {
		stores = append(stores, anyBarn(source, 10), wideBarn(source, 12), wideBarn(source, 25))
	}
	return stores
}

// Promise 7: bins are what is found of a row.
func TestBinsAreWhatIsFoundOfARow(t *testing.T) {
	for _, b := range storesOfRows(73) {
		places, rows := placesOf(b), rowsOf(b)
		for _, time := range timesOf(b) {
			found := map[string][]impl.Bin{}
			for _, place := range places {
				if c, is := impl.FindBarn(b, place[0], place[1], time); is && !c.Gone {
					found[place[0]] = append(found[place[0]], bin(place[1], c.Value))
				}
			}
			for _, row := range rows {
				want := binsOfValues(valuesOf(found[row]))
				if len(want) > 12 {
					want = nil
				}
				got := impl.BinsOf(b, row, time)
				if !slices.Equal(got, want) || !impl.BinsOk(got) || !slices.Equal(got, plainBinsOf(b, row, time)) {
					t.Errorf("BinsOf(%+v, %q, %d) = %+v, but found is %+v", b, row, time, got, want)
				}
			}
		}
	}
}

func TestBinsOfAnyStore(t *testing.T) {
	source := rand.New(rand.NewSource(76))
	for range 300 {
		b, row, time := wideBarn(source, 30), []string{"a", "aa"}[source.Intn(2)], source.Int63n(9)
		checkBinsOf(t, b, row, time, plainBinsOf(b, row, time))
	}
}

// checkSameRowsFrom checks what is in the rows at a time and later, before and after a sweep that keeps only what is needed then.
func checkSameRowsFrom(t *testing.T, b impl.Barn, keep, from int64) {
	t.Helper()
	swept, ok := impl.Swept(b, keep, from)
	if ok && !impl.BarnOk(swept) {
		t.Fatalf("Swept(%+v, %d, %d) = %+v", b, keep, from, swept)
	}
	times := slices.DeleteFunc(append(timesOf(b), from), func(time int64) bool { return time < from })
	for _, row := range rowsOf(b) {
		for _, time := range times {
			want := plainBinsOf(b, row, time)
			if before, after := impl.BinsOf(b, row, time), impl.BinsOf(swept, row, time); !slices.Equal(before, want) || !slices.Equal(after, want) {
				t.Errorf("of %+v, %q at %d is %+v, but %+v after Swept by %d and %d, want %+v", b, row, time, before, after, keep, from, want)
			}
		}
	}
}

// withLaterHand drops what the Hand has of this time or earlier.
func withLaterHand(b impl.Barn, from int64) impl.Barn {
	later := copyOfBarn(b)
	later.Hand = slices.DeleteFunc(later.Hand, func(c impl.Cell) bool { return c.Key.Time <= from })
	return later
}

// Promise 7: after Swept the bins are the same from that Time on, if nothing in the Hand is of that Time or earlier.
func TestBinsAreTheSameAfterSwept(t *testing.T) {
	source := rand.New(rand.NewSource(74))
	for _, b := range storesOfRows(75) {
		for _, from := range []int64{0, source.Int63n(8), source.Int63n(8), 8, 999999, 1000000} {
			checkSameRowsFrom(t, withLaterHand(b, from), 1+source.Int63n(9), from)
			checkSameRowsFrom(t, withLaterHand(b, from), 1, from)
		}
	}
}

func TestBinsAreTheSameAfterSweptExamples(t *testing.T) {
	shelves := [][]impl.Cell{
		{cell("a", "b", 20, 3), goneCell("a", "c", 20), goneCell("a", "d", 10), cell("aa", "b", 20, 1)},
		{cell("a", "b", 10, 2), cell("a", "c", 15, 5), goneCell("a", "d", 20), cell("a", "e", 0, leastWord)},
		{cell("a", "b", 0, 1), goneCell("a", "c", 10), cell("a", "d", 5, 6), cell("a", "e", 1000000, greatestWord)},
	}
	hand := []impl.Cell{goneCell("a", "b", 30), cell("a", "c", 30, 7), cell("a", "d", 25, 8), cell("b", "d", 1000000, 9)}
	for keep := int64(1); keep <= 9; keep++ {
		for _, from := range []int64{0, 1, 9, 10, 11, 15, 19, 20, 21, 24, 29, 30, 999999, 1000000} {
			for _, b := range []impl.Barn{barn(nil, shelves...), barn(withLaterHand(barn(hand), from).Hand, shelves...)} {
				checkSameRowsFrom(t, b, keep, from)
			}
		}
	}
	b, ok := impl.Swept(barn(hand[2:3], shelves...), 1, 20)
	if !ok {
		t.Fatal(b)
	}
	checkBinsOf(t, b, "a", 20, []impl.Bin{bin("b", 3), bin("e", leastWord)})
	checkBinsOf(t, b, "a", 25, []impl.Bin{bin("b", 3), bin("d", 8), bin("e", leastWord)})
	checkBinsOf(t, b, "a", 1000000, []impl.Bin{bin("b", 3), bin("d", 8), bin("e", greatestWord)})
	checkBinsOf(t, b, "aa", 20, []impl.Bin{bin("b", 1)})
}

// The shelves have a row with just as many bins as a list can have, others that were there before, and with the Hand one more.
func TestBinsOfFullRowsAreTheSameAfterSwept(t *testing.T) {
	before, now := rowCells("a", "vvvvvvvvvvvvvvv", 3), rowCells("a", "vgvvvgvvvvgvvvv", 7)
	more := []impl.Cell{cell("a", "aa", 9, 5)}
	for _, b := range []impl.Barn{barn(nil, now, before), barn(nil, before, now), barn(more, now, before), barn(more, before, now)} {
		for keep := int64(1); keep <= 9; keep++ {
			for _, from := range []int64{0, 2, 3, 6, 7, 8} {
				checkSameRowsFrom(t, b, keep, from)
			}
		}
		swept, ok := impl.Swept(b, 1, 7)
		if got := impl.BinsOf(swept, "a", 8); !ok || len(got) != 12 || !slices.Equal(got, impl.BinsOf(b, "a", 8)) {
			t.Errorf("BinsOf after Swept = %+v", got)
		}
		if got := impl.BinsOf(swept, "a", 9); (len(got) == 0) != (len(b.Hand) > 0) {
			t.Errorf("BinsOf at 9 after Swept = %+v", got)
		}
	}
}

// Together the shelves have more cells than a shelf can have; of each bin one remains.
func TestBinsOfManyCellsAreTheSameAfterSwept(t *testing.T) {
	var shelves [][]impl.Cell
	for i := range 5 {
		shelves = append(shelves, spreadCells(0, 199, int64(10-i), int64(i)))
	}
	b := barn([]impl.Cell{goneCell("aab", "x", 12)}, shelves...)
	swept, ok := impl.Swept(b, 1, 10)
	if !ok || len(swept.Shelves) != 1 {
		t.Fatal(swept)
	}
	for _, row := range []string{"aaa", "aab", "aac", "ahq"} {
		for _, time := range []int64{10, 11, 12, 1000000} {
			want := []impl.Bin{bin("x", 0)}
			if row == "aab" && time >= 12 {
				want = nil
			}
			checkBinsOf(t, b, row, time, want)
			checkBinsOf(t, swept, row, time, want)
		}
	}
}
