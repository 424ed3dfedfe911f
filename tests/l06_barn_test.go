package tests

import (
	"fmt"
	"math"
	"math/rand"
	"slices"
	"strings"
	"testing"

	"loop.example/g00526/impl"
)

func barn(hand []impl.Cell, shelves ...[]impl.Cell) impl.Barn {
	return impl.Barn{Hand: hand, Shelves: shelves}
}

func copyOfBarn(b impl.Barn) impl.Barn {
	made := impl.Barn{Hand: slices.Clone(b.Hand)}
	for _, shelf := range b.Shelves {
		made.Shelves = append(made.Shelves, slices.Clone(shelf))
	}
	return made
}

func sameBarn(a, b impl.Barn) bool {
	return slices.Equal(a.Hand, b.Hand) && slices.EqualFunc(a.Shelves, b.Shelves, slices.Equal)
}

// tables returns Hand and the shelves, those that take precedence first.
func tables(b impl.Barn) [][]impl.Cell {
	return append([][]impl.Cell{b.Hand}, b.Shelves...)
}

// plainUnion puts the cells of all lists from the last one on, so that those of the first one replace the others.
func plainUnion(lists [][]impl.Cell) []impl.Cell {
	cells := map[impl.Key]impl.Cell{}
	for _, l := range slices.Backward(lists) {
		for _, c := range l {
			cells[c.Key] = c
		}
	}
	var union []impl.Cell
	for _, c := range cells {
		union = append(union, c)
	}
	slices.SortFunc(union, func(a, b impl.Cell) int { return strings.Compare(wantedText(a.Key), wantedText(b.Key)) })
	return union
}

// plainFindBarn looks at every cell of every list.
func plainFindBarn(b impl.Barn, row, bin string, time int64) (impl.Cell, bool) {
	var cells []impl.Cell
	for _, l := range tables(b) {
		cells = append(cells, l...)
	}
	return plainFind(cells, row, bin, time)
}

// plainSwept takes valid arguments and shelves of which at most 200 cells remain.
func plainSwept(b impl.Barn, keep, from int64) impl.Barn {
	shelf := plainThinned(plainUnion(b.Shelves), keep, from)
	if len(shelf) == 0 {
		return barn(b.Hand)
	}
	return barn(b.Hand, shelf)
}

// spreadCells returns the cells of that many bins from the one with that number on, all with the same time.
func spreadCells(first, count int, time, value int64) []impl.Cell {
	var l []impl.Cell
	for i := first; i < first+count; i++ {
		l = append(l, cell(string([]byte{'a' + byte(i/26/26%26), 'a' + byte(i/26%26), 'a' + byte(i%26)}), "x", time, value))
	}
	return l
}

// anyBarn returns a valid store; its lists have many keys in common.
func anyBarn(source *rand.Rand, count int) impl.Barn {
	b := impl.Barn{Hand: anyCells(source, count)}
	for range source.Intn(6) {
		if shelf := anyCells(source, count); len(shelf) > 0 {
			b.Shelves = append(b.Shelves, shelf)
		}
	}
	return b
}

// someBarns returns valid stores: empty and full ones, and any.
func someBarns() []impl.Barn {
	one, other := []impl.Cell{cell("a", "b", 7, 5)}, []impl.Cell{goneCell("a", "b", 3)}
	full := manyCells(200)
	barns := []impl.Barn{
		{}, {Hand: []impl.Cell{}, Shelves: [][]impl.Cell{}},
		barn(one), barn(nil, one), barn(one, other), barn(other, one), barn(one, one), barn(full), barn(nil, full),
		barn(nil, other, one), barn(one, one, one, one, one), barn(nil, one, other, one, other), barn(one, one, one, one, one, one), barn(nil, one, other, one, other, one),
		barn(full, full, full, full, full, full), barn(nil, full, full, full, full, full), barn(longCells(200), full, longCells(200)),
	}
	source := rand.New(rand.NewSource(61))
	for range 20 {
		barns = append(barns, anyBarn(source, 30))
	}
	return barns
}

// notBarns returns stores that are not valid, with the reason at each.
func notBarns() map[string]impl.Barn {
	one, good := []impl.Cell{cell("a", "b", 7, 5)}, manyCells(5)
	barns := map[string]impl.Barn{
		"6 shelves":             barn(good, one, one, one, one, one, one),
		"6 shelves, no hand":    barn(nil, one, one, one, one, one, one),
		"7 shelves":             barn(nil, one, one, one, one, one, one, one),
		"200 shelves":           {Shelves: slices.Repeat([][]impl.Cell{one}, 200)},
		"6 empty shelves":       {Shelves: make([][]impl.Cell, 6)},
		"an empty shelf":        barn(good, []impl.Cell{}),
		"a nil shelf":           barn(good, nil),
		"an empty shelf, first": barn(nil, nil, one, good),
		"an empty shelf inside": barn(good, one, []impl.Cell{}, good),
		"an empty shelf, last":  barn(one, one, good, nil),
		"5 shelves, last empty": barn(one, one, one, one, one, nil),
	}
	for what, bad := range notLists() {
		barns[what+", in hand"] = barn(bad)
		barns[what+", in hand of shelves"] = barn(bad, one, good)
		barns[what+", in the only shelf"] = barn(nil, bad)
		barns[what+", in the first shelf"] = barn(one, bad, good)
		barns[what+", in the last shelf"] = barn(good, one, good, one, good, bad)
	}
	for i, c := range notCells() {
		barns[fmt.Sprint("cell ", i, " alone in hand")] = barn([]impl.Cell{c})
		barns[fmt.Sprint("cell ", i, " alone in a shelf")] = barn(one, good, []impl.Cell{c})
	}
	return barns
}

// roomyBarn returns a copy of a store with unused capacity in each of its slices, and the same memory with that capacity.
func roomyBarn(b impl.Barn, room int) (impl.Barn, impl.Barn) {
	made, whole := impl.Barn{}, impl.Barn{}
	made.Hand, whole.Hand = roomy(b.Hand, room)
	for _, shelf := range b.Shelves {
		l, all := roomy(shelf, room)
		made.Shelves, whole.Shelves = append(made.Shelves, l), append(whole.Shelves, all)
	}
	shelves := make([][]impl.Cell, len(b.Shelves)+room)
	copy(shelves, made.Shelves)
	for i := len(b.Shelves); i < len(shelves); i++ {
		shelves[i] = []impl.Cell{cell("room", "shelf", int64(i), -7)}
	}
	made.Shelves = shelves[:len(b.Shelves)]
	return made, whole
}

// memory is a store with the unused capacity of its slices, and a copy of all of that.
type memory struct {
	whole, before impl.Barn
	shelves, same [][]impl.Cell
}

func memoryOf(b, whole impl.Barn) memory {
	shelves := b.Shelves[:cap(b.Shelves)]
	return memory{whole, copyOfBarn(whole), shelves, copyOfBarn(impl.Barn{Shelves: shelves}).Shelves}
}

func (m memory) unchanged() bool {
	return sameBarn(m.whole, m.before) && slices.EqualFunc(m.shelves, m.same, slices.Equal)
}

// overwriteBarn changes everything that a result holds or has room for, and reports whether no two of its slices share memory.
func overwriteBarn(b impl.Barn) bool {
	all := tables(b)
	for i, l := range all {
		for j := range l[:cap(l)] {
			l[:cap(l)][j] = cell("other", "other", int64(i), int64(j))
		}
	}
	apart := true
	for i, l := range all {
		for j, c := range l[:cap(l)] {
			apart = apart && c == cell("other", "other", int64(i), int64(j))
		}
	}
	for i := range b.Shelves[:cap(b.Shelves)] {
		b.Shelves[:cap(b.Shelves)][i] = []impl.Cell{cell("other", "shelf", 1, 1)}
	}
	return apart
}

// checkBarn also checks that the store stays as it was, with its unused capacity, and that the result is other memory.
func checkBarn(t *testing.T, what string, b impl.Barn, call func(impl.Barn) (impl.Barn, bool), want impl.Barn, wantOk bool) {
	t.Helper()
	for _, room := range []int{0, 1, 7} {
		made, whole := roomyBarn(b, room)
		before := memoryOf(made, whole)
		got, ok := call(made)
		if !sameBarn(got, want) || ok != wantOk {
			t.Errorf("%s of %+v = %+v, %v, want %+v, %v", what, b, got, ok, want, wantOk)
		}
		if !before.unchanged() {
			t.Errorf("%s of %+v changed the store or its unused capacity", what, b)
		}
		if !overwriteBarn(got) {
			t.Errorf("two slices of the result of %s of %+v share memory", what, b)
		}
		if !before.unchanged() {
			t.Errorf("the result of %s of %+v shares memory with the store", what, b)
		}
	}
}

func checkPutBarn(t *testing.T, b impl.Barn, c impl.Cell, want impl.Barn, wantOk bool) {
	t.Helper()
	put := func(b impl.Barn) (impl.Barn, bool) { return impl.PutBarn(b, c) }
	checkBarn(t, fmt.Sprintf("PutBarn of %+v", c), b, put, want, wantOk)
}

func checkLaid(t *testing.T, b, want impl.Barn, wantOk bool) {
	t.Helper()
	checkBarn(t, "Laid", b, impl.Laid, want, wantOk)
}

func checkSwept(t *testing.T, b impl.Barn, keep, from int64, want impl.Barn, wantOk bool) {
	t.Helper()
	sweep := func(b impl.Barn) (impl.Barn, bool) { return impl.Swept(b, keep, from) }
	checkBarn(t, fmt.Sprintf("Swept by %d and %d", keep, from), b, sweep, want, wantOk)
}

func checkFindBarn(t *testing.T, b impl.Barn, row, bin string, time int64, want impl.Cell, wantOk bool) {
	t.Helper()
	made, whole := roomyBarn(b, 3)
	before := memoryOf(made, whole)
	if got, ok := impl.FindBarn(made, row, bin, time); got != want || ok != wantOk {
		t.Errorf("FindBarn(%+v, %q, %q, %d) = %+v, %v, want %+v, %v", b, row, bin, time, got, ok, want, wantOk)
	}
	if !before.unchanged() {
		t.Errorf("FindBarn(%+v, %q, %q, %d) changed the store or its unused capacity", b, row, bin, time)
	}
}

func checkNotInBarn(t *testing.T, b impl.Barn, row, bin string, time int64) {
	t.Helper()
	checkFindBarn(t, b, row, bin, time, impl.Cell{}, false)
}

func checkAllCells(t *testing.T, b impl.Barn, want []impl.Cell) {
	t.Helper()
	for _, room := range []int{0, 1, 7} {
		made, whole := roomyBarn(b, room)
		before := memoryOf(made, whole)
		got := impl.AllCells(made)
		if !slices.Equal(got, want) {
			t.Errorf("AllCells(%+v) = %+v, want %+v", b, got, want)
		}
		if !before.unchanged() {
			t.Errorf("AllCells(%+v) changed the store or its unused capacity", b)
		}
		overwrite(got)
		if !before.unchanged() {
			t.Errorf("the result of AllCells(%+v) shares memory with the store", b)
		}
	}
}

func checkBarnOk(t *testing.T, what string, b impl.Barn, want bool) {
	t.Helper()
	made, whole := roomyBarn(b, 3)
	before := memoryOf(made, whole)
	if got := impl.BarnOk(made); got != want {
		t.Errorf("%s: BarnOk(%+v) = %v", what, b, got)
	}
	if !before.unchanged() {
		t.Errorf("%s: BarnOk(%+v) changed the store or its unused capacity", what, b)
	}
}

// placesOf returns every Row and Bin of a store, and some that are not there.
func placesOf(b impl.Barn) [][2]string {
	places := [][2]string{{"a", "a"}, {"zz", "b"}, {"a", "zz"}}
	for _, c := range plainUnion(tables(b)) {
		if p := [2]string{c.Key.Row, c.Key.Bin}; !slices.Contains(places, p) {
			places = append(places, p)
		}
	}
	return places
}

// timesOf returns both ends of the time, and the times of all cells of a store with those beside them.
func timesOf(b impl.Barn) []int64 {
	times := []int64{0, 1, 999999, 1000000}
	for _, l := range tables(b) {
		for _, c := range l {
			times = append(times, max(c.Key.Time-1, 0), c.Key.Time, min(c.Key.Time+1, 1000000))
		}
	}
	slices.Sort(times)
	return slices.Compact(times)
}

func TestMaxShelves(t *testing.T) {
	if impl.MaxShelves != 5 {
		t.Error(impl.MaxShelves)
	}
}

func TestBarnOk(t *testing.T) {
	for _, b := range someBarns() {
		checkBarnOk(t, "valid", b, true)
	}
	for what, b := range notBarns() {
		checkBarnOk(t, what, b, false)
	}
}

func TestBarnOkOfEachCountOfShelves(t *testing.T) {
	for count := range 20 {
		shelves := slices.Repeat([][]impl.Cell{{cell("a", "b", 7, 5)}}, count)
		checkBarnOk(t, fmt.Sprint(count, " shelves"), impl.Barn{Shelves: shelves}, count <= 5)
		for i := range shelves {
			bad := slices.Clone(shelves)
			bad[i] = nil
			checkBarnOk(t, fmt.Sprint(count, " shelves, one empty"), impl.Barn{Shelves: bad}, false)
		}
	}
}

func TestPutBarnExamples(t *testing.T) {
	late, early := cell("a", "b", 7, 5), cell("a", "b", 3, 6)
	shelf := []impl.Cell{goneCell("a", "b", 7)}
	checkPutBarn(t, impl.Barn{}, late, barn([]impl.Cell{late}), true)
	checkPutBarn(t, barn([]impl.Cell{late}), early, barn([]impl.Cell{late, early}), true)
	checkPutBarn(t, barn(nil, shelf), late, barn([]impl.Cell{late}, shelf), true)
	checkPutBarn(t, barn([]impl.Cell{early}, shelf, shelf), late, barn([]impl.Cell{late, early}, shelf, shelf), true)
	checkPutBarn(t, barn([]impl.Cell{late}, shelf), shelf[0], barn(shelf, shelf), true)
}

func TestPutBarnPutsIntoHand(t *testing.T) {
	source := rand.New(rand.NewSource(62))
	for range 200 {
		b, c := anyBarn(source, 20), anyCell(source)
		checkPutBarn(t, b, c, barn(plainPut(b.Hand, c), b.Shelves...), true)
	}
}

func TestPutBarnIntoAFullHand(t *testing.T) {
	shelf := []impl.Cell{cell("a", "b", 7, 5), cell("z", "z", 7, 5)}
	for _, count := range []int{198, 199, 200} {
		for _, b := range []impl.Barn{barn(manyCells(count)), barn(manyCells(count), shelf), barn(manyCells(count), shelf, manyCells(200), shelf, shelf, manyCells(200))} {
			for _, c := range []impl.Cell{cell("a", "b", 7, 1), goneCell("rc", "b", 4), cell("z", "z", 7, 1)} {
				if count < 200 {
					checkPutBarn(t, b, c, barn(plainPut(b.Hand, c), b.Shelves...), true)
				} else {
					checkPutBarn(t, b, c, b, false)
				}
			}
			for _, i := range []int{0, 1, 100, count - 1} {
				c := impl.Cell{Key: b.Hand[i].Key, Gone: true}
				checkPutBarn(t, b, c, barn(plainPut(b.Hand, c), b.Shelves...), true)
			}
		}
	}
}

func TestPutBarnRejects(t *testing.T) {
	barns := []impl.Barn{{}, barn(manyCells(3)), barn(nil, manyCells(3)), barn(manyCells(2), manyCells(4), manyCells(1)), barn(manyCells(200), manyCells(200))}
	for _, c := range notCells() {
		for _, b := range barns {
			checkPutBarn(t, b, c, b, false)
		}
	}
	for _, b := range notBarns() {
		checkPutBarn(t, b, cell("a", "b", 7, 5), impl.Barn{}, false)
		checkPutBarn(t, b, goneCell("ra", "b", 7), impl.Barn{}, false)
		checkPutBarn(t, b, impl.Cell{}, impl.Barn{}, false)
	}
}

func TestLaidExamples(t *testing.T) {
	late, early, full := []impl.Cell{cell("a", "b", 7, 5)}, []impl.Cell{goneCell("a", "b", 3)}, manyCells(200)
	checkLaid(t, barn(late), barn(nil, late), true)
	checkLaid(t, barn(late, early), barn(nil, late, early), true)
	checkLaid(t, barn(early, late), barn(nil, early, late), true)
	checkLaid(t, barn(late, early, late), barn(nil, late, early, late), true)
	checkLaid(t, barn(early, early, late), barn(nil, early, early, late), true)
	checkLaid(t, barn(full), barn(nil, full), true)
	checkLaid(t, barn(full, full, late, full, early), barn(nil, full, full, late, full, early), true)
}

func TestLaidOfEachCountOfShelves(t *testing.T) {
	for count := range 6 {
		var shelves [][]impl.Cell
		for i := range count {
			shelves = append(shelves, []impl.Cell{cell("a", "b", int64(i), 1)})
		}
		hand := []impl.Cell{cell("b", "b", 9, 2), cell("c", "b", 9, 2)}
		checkLaid(t, barn(nil, shelves...), barn(nil, shelves...), false)
		checkLaid(t, barn([]impl.Cell{}, shelves...), barn(nil, shelves...), false)
		if count < 5 {
			checkLaid(t, barn(hand, shelves...), barn(nil, append([][]impl.Cell{hand}, shelves...)...), true)
		} else {
			checkLaid(t, barn(hand, shelves...), barn(hand, shelves...), false)
		}
	}
}

func TestLaidRejects(t *testing.T) {
	for _, b := range notBarns() {
		checkLaid(t, b, impl.Barn{}, false)
	}
}

// Promise 6: Laid changes nothing that is found.
func TestLaidChangesNothingThatIsFound(t *testing.T) {
	source := rand.New(rand.NewSource(63))
	barns := someBarns()
	for range 60 {
		barns = append(barns, anyBarn(source, 20))
	}
	for _, b := range barns {
		laid, ok := impl.Laid(b)
		if ok != (len(b.Hand) > 0 && len(b.Shelves) < 5) {
			t.Errorf("Laid(%+v) = %v", b, ok)
		}
		for _, place := range placesOf(b) {
			for _, time := range timesOf(b) {
				want, is := impl.FindBarn(b, place[0], place[1], time)
				if got, found := impl.FindBarn(laid, place[0], place[1], time); got != want || found != is {
					t.Errorf("of %+v, %v at %d is %+v, %v, but %+v, %v after Laid", b, place, time, want, is, got, found)
				}
			}
		}
		if before, after := impl.AllCells(b), impl.AllCells(laid); !slices.Equal(before, after) {
			t.Errorf("AllCells of %+v is %+v, but %+v after Laid", b, before, after)
		}
	}
}

// Promise 6: what is found is what is found in all cells.
func TestWhatIsFoundIsWhatIsFoundInAllCells(t *testing.T) {
	source := rand.New(rand.NewSource(64))
	barns := someBarns()
	for range 60 {
		barns = append(barns, anyBarn(source, 20))
	}
	for _, b := range barns {
		all, fits := impl.AllCells(b), len(plainUnion(tables(b))) <= 200
		for _, place := range placesOf(b) {
			for _, time := range timesOf(b) {
				want, is := plainFindBarn(b, place[0], place[1], time)
				checkFindBarn(t, b, place[0], place[1], time, want, is)
				if fits {
					checkFind(t, all, place[0], place[1], time, want, is)
				}
			}
		}
	}
}

func TestFindBarnTakesHandThenTheLatestShelf(t *testing.T) {
	k := impl.Key{Row: "a", Bin: "b", Time: 7}
	var lists [][]impl.Cell
	for i := range 6 {
		lists = append(lists, []impl.Cell{{Key: k, Value: int64(i + 1)}})
	}
	lists[2], lists[4] = []impl.Cell{{Key: k, Gone: true}}, []impl.Cell{{Key: k}}
	for first := range lists {
		// The lists before the first one have no cell of that bin.
		b := barn(lists[0], lists[1:]...)
		for i := range first {
			b = copyOfBarn(b)
			if i == 0 {
				b.Hand = nil
			} else {
				b.Shelves[i-1] = []impl.Cell{cell("a", "a", 7, 9), cell("a", "c", 7, 9)}
			}
		}
		for _, time := range []int64{7, 8, 1000000} {
			checkFindBarn(t, b, "a", "b", time, lists[first][0], true)
		}
		checkNotInBarn(t, b, "a", "b", 6)
		checkAllCells(t, b, plainUnion(tables(b)))
		if all := impl.AllCells(b); !slices.Contains(all, lists[first][0]) {
			t.Errorf("AllCells(%+v) = %+v", b, all)
		}
	}
}

func TestFindBarnTakesTheGreatestTimeWhereverItIs(t *testing.T) {
	for greatest := range 6 {
		lists := make([][]impl.Cell, 6)
		for i := range lists {
			lists[i] = []impl.Cell{cell("a", "b", int64(10+i), int64(i))}
		}
		lists[greatest] = []impl.Cell{cell("a", "b", 50, 5), cell("a", "b", 2, 1)}
		b := barn(lists[0], lists[1:]...)
		checkFindBarn(t, b, "a", "b", 1000000, lists[greatest][0], true)
		checkFindBarn(t, b, "a", "b", 50, lists[greatest][0], true)
		checkFindBarn(t, b, "a", "b", 9, lists[greatest][1], true)
		last := 5
		if greatest == 5 {
			last = 4
		}
		checkFindBarn(t, b, "a", "b", 49, lists[last][0], true)
		checkNotInBarn(t, b, "a", "b", 1)
	}
	late, early := goneCell("a", "b", 9), cell("a", "b", 7, 5)
	for _, b := range []impl.Barn{barn([]impl.Cell{early}, []impl.Cell{late}), barn([]impl.Cell{late}, []impl.Cell{early}), barn(nil, []impl.Cell{early}, []impl.Cell{late}), barn(nil, []impl.Cell{late}, []impl.Cell{early})} {
		checkFindBarn(t, b, "a", "b", 9, late, true)
		checkFindBarn(t, b, "a", "b", 1000000, late, true)
		checkFindBarn(t, b, "a", "b", 8, early, true)
		checkFindBarn(t, b, "a", "b", 7, early, true)
		checkNotInBarn(t, b, "a", "b", 6)
	}
}

func TestFindBarnAtBothEndsOfTheTime(t *testing.T) {
	first, last := []impl.Cell{cell("a", "b", 0, leastWord)}, []impl.Cell{goneCell("a", "b", 1000000)}
	for _, b := range []impl.Barn{barn(first, last), barn(last, first), barn(nil, first, last), barn(nil, last, first)} {
		checkFindBarn(t, b, "a", "b", 0, first[0], true)
		checkFindBarn(t, b, "a", "b", 999999, first[0], true)
		checkFindBarn(t, b, "a", "b", 1000000, last[0], true)
	}
	for _, b := range []impl.Barn{barn(last), barn(nil, last)} {
		checkNotInBarn(t, b, "a", "b", 0)
		checkNotInBarn(t, b, "a", "b", 999999)
	}
	for _, b := range []impl.Barn{barn(first), barn(nil, first), barn(first, first)} {
		checkFindBarn(t, b, "a", "b", 0, first[0], true)
		checkFindBarn(t, b, "a", "b", 1000000, first[0], true)
	}
}

func TestFindBarnInTheEmptyStore(t *testing.T) {
	for _, k := range someKeys() {
		checkNotInBarn(t, impl.Barn{}, k.Row, k.Bin, k.Time)
		checkNotInBarn(t, impl.Barn{Hand: []impl.Cell{}, Shelves: [][]impl.Cell{}}, k.Row, k.Bin, k.Time)
	}
}

func TestFindBarnRejects(t *testing.T) {
	one := []impl.Cell{cell("a", "b", 7, 5)}
	for _, b := range []impl.Barn{{}, barn(one), barn(nil, one), barn(one, manyCells(200))} {
		for _, name := range notNames() {
			checkNotInBarn(t, b, name, "b", 7)
			checkNotInBarn(t, b, "a", name, 7)
		}
		for _, time := range notTimes() {
			checkNotInBarn(t, b, "a", "b", time)
		}
	}
	for _, b := range notBarns() {
		checkNotInBarn(t, b, "a", "b", 7)
		checkNotInBarn(t, b, "ra", "b", 1000000)
	}
}

func TestAllCellsExamples(t *testing.T) {
	late, early, other := cell("a", "b", 7, 5), goneCell("a", "b", 3), cell("a", "c", 9, 1)
	for _, b := range []impl.Barn{
		barn([]impl.Cell{late, early, other}), barn(nil, []impl.Cell{late, early, other}), barn([]impl.Cell{other}, []impl.Cell{late, early}), barn([]impl.Cell{early}, []impl.Cell{late, other}),
		barn([]impl.Cell{early}, []impl.Cell{other}, []impl.Cell{late}), barn(nil, []impl.Cell{other}, []impl.Cell{early}, []impl.Cell{late}), barn([]impl.Cell{late, other}, []impl.Cell{early, other}, []impl.Cell{late, early}),
	} {
		checkAllCells(t, b, []impl.Cell{late, early, other})
	}
	checkAllCells(t, impl.Barn{}, nil)
	checkAllCells(t, impl.Barn{Hand: []impl.Cell{}, Shelves: [][]impl.Cell{}}, nil)
}

func TestAllCellsTakesHandThenTheLatestShelf(t *testing.T) {
	k := impl.Key{Row: "a", Bin: "b", Time: 7}
	same := []impl.Cell{{Key: k, Value: 5}, {Key: k}, {Key: k, Gone: true}}
	for _, first := range same {
		for _, second := range same {
			for _, third := range same {
				lists := [][]impl.Cell{{first}, {second}, {third}}
				checkAllCells(t, barn(lists[0], lists[1:]...), lists[0])
				checkAllCells(t, barn(nil, lists...), lists[0])
				checkAllCells(t, barn([]impl.Cell{cell("a", "a", 7, 1)}, lists...), []impl.Cell{cell("a", "a", 7, 1), first})
			}
		}
	}
}

func TestAllCellsUpToTheGreatestList(t *testing.T) {
	for _, count := range []int{199, 200, 201, 202, 300} {
		all := spreadCells(0, count, 7, 5)
		want := all
		if count > 200 {
			want = nil
		}
		checkAllCells(t, barn(all[:100], all[100:]), want)
		checkAllCells(t, barn(all[100:], all[:100]), want)
		checkAllCells(t, barn(nil, all[:100], all[100:]), want)
		checkAllCells(t, barn(all[:100], all[100:], all[50:150], all[count-200+count%2:]), want)
		checkAllCells(t, barn(all[count-1:], all[:20], all[20:40], all[40:60], all[60:100], all[100:count-1]), want)
	}
	full := manyCells(200)
	checkAllCells(t, barn(full, full, full, full, full, full), full)
	checkAllCells(t, barn(nil, full, full, full, full, full), full)
	checkAllCells(t, barn(full, full, full, full, full, []impl.Cell{goneCell("a", "b", 0)}), nil)
}

func TestAllCellsOfAnyStore(t *testing.T) {
	source := rand.New(rand.NewSource(65))
	for range 300 {
		b := anyBarn(source, 60)
		want := plainUnion(tables(b))
		if len(want) > 200 {
			want = nil
		}
		checkAllCells(t, b, want)
	}
}

func TestAllCellsRejects(t *testing.T) {
	for _, b := range notBarns() {
		checkAllCells(t, b, nil)
	}
}

func TestSweptExamples(t *testing.T) {
	hand := []impl.Cell{cell("a", "b", 30, 9), cell("a", "b", 1, 9)}
	late, middle, early := cell("a", "b", 20, 3), cell("a", "b", 10, 2), cell("a", "b", 5, 1)
	gone, other := goneCell("a", "b", 10), cell("b", "b", 1, 4)
	for _, c := range []struct {
		shelves    [][]impl.Cell
		keep, from int64
		want       []impl.Cell
	}{
		{[][]impl.Cell{{late, middle, early}}, 1, 20, []impl.Cell{late}},
		{[][]impl.Cell{{late}, {middle}, {early}}, 1, 20, []impl.Cell{late}},
		{[][]impl.Cell{{early}, {middle}, {late}}, 1, 20, []impl.Cell{late}},
		{[][]impl.Cell{{late}, {middle}, {early}}, 1, 19, []impl.Cell{late, middle}},
		{[][]impl.Cell{{late}, {middle, other}, {early}}, 2, 20, []impl.Cell{late, middle, other}},
		{[][]impl.Cell{{late}, {middle}, {early, other}}, 9, 1000000, []impl.Cell{late, middle, early, other}},
		{[][]impl.Cell{{late}, {middle}, {early, other}}, 1, 0, []impl.Cell{late, middle, early, other}},
		{[][]impl.Cell{{gone}, {middle}}, 9, 1000000, nil},
		{[][]impl.Cell{{middle}, {gone}}, 9, 1000000, []impl.Cell{middle}},
		{[][]impl.Cell{{gone}, {middle}}, 9, 9, []impl.Cell{gone}},
		{[][]impl.Cell{{gone}, {middle, early}}, 2, 10, []impl.Cell{gone, early}},
		{[][]impl.Cell{{gone}, {middle, early}}, 1, 10, nil},
		{[][]impl.Cell{{gone}, {middle, early, other}}, 1, 10, []impl.Cell{other}},
	} {
		shelves := [][]impl.Cell{}
		if len(c.want) > 0 {
			shelves = append(shelves, c.want)
		}
		checkSwept(t, barn(nil, c.shelves...), c.keep, c.from, barn(nil, shelves...), true)
		checkSwept(t, barn(hand, c.shelves...), c.keep, c.from, barn(hand, shelves...), true)
	}
}

func TestSweptTakesTheLatestShelf(t *testing.T) {
	k := impl.Key{Row: "a", Bin: "b", Time: 7}
	for first := range 5 {
		var shelves [][]impl.Cell
		for i := range 5 {
			if i < first {
				shelves = append(shelves, []impl.Cell{cell("b", "b", int64(i), 1)})
			} else {
				shelves = append(shelves, []impl.Cell{{Key: k, Value: int64(i)}})
			}
		}
		hand := []impl.Cell{{Key: k, Gone: true}}
		got, ok := impl.Swept(barn(hand, shelves...), 9, 1000000)
		if !ok || len(got.Shelves) != 1 || !slices.Equal(got.Hand, hand) || got.Shelves[0][0] != (impl.Cell{Key: k, Value: int64(first)}) {
			t.Errorf("Swept of %+v = %+v, %v", shelves, got, ok)
		}
		checkSwept(t, barn(hand, shelves...), 9, 1000000, plainSwept(barn(hand, shelves...), 9, 1000000), true)
	}
}

func TestSweptOfAnyStore(t *testing.T) {
	source := rand.New(rand.NewSource(66))
	for range 300 {
		b, keep, from := anyBarn(source, 24), 1+source.Int63n(9), source.Int63n(10)
		if source.Intn(5) == 0 {
			from = []int64{0, 999999, 1000000}[source.Intn(3)]
		}
		if len(b.Shelves) == 0 {
			checkSwept(t, b, keep, from, b, false)
			continue
		}
		checkSwept(t, b, keep, from, plainSwept(b, keep, from), true)
	}
}

func TestSweptByBothEndsOfKeepAndFrom(t *testing.T) {
	var shelf []impl.Cell
	for time := int64(12); time >= 1; time-- {
		shelf = append(shelf, cell("a", "b", time, time))
	}
	for _, shelves := range [][][]impl.Cell{{shelf}, {shelf[:6], shelf[6:]}, {shelf[6:], shelf[:6]}} {
		b := barn(nil, shelves...)
		checkSwept(t, b, 1, 1000000, barn(nil, shelf[:1]), true)
		checkSwept(t, b, 8, 1000000, barn(nil, shelf[:8]), true)
		checkSwept(t, b, 9, 1000000, barn(nil, shelf[:9]), true)
		checkSwept(t, b, 1, 0, barn(nil, shelf), true)
		checkSwept(t, b, 9, 0, barn(nil, shelf), true)
		checkSwept(t, b, 9, 3, barn(nil, shelf), true)
		checkSwept(t, b, 1, 3, barn(nil, shelf[:10]), true)
	}
	zero, last := cell("a", "b", 0, 1), cell("a", "b", 1000000, 2)
	b := barn(nil, []impl.Cell{last}, []impl.Cell{zero})
	checkSwept(t, b, 1, 0, barn(nil, []impl.Cell{last, zero}), true)
	checkSwept(t, b, 1, 999999, barn(nil, []impl.Cell{last, zero}), true)
	checkSwept(t, b, 1, 1000000, barn(nil, []impl.Cell{last}), true)
}

// The shelves have together more cells than a shelf can have; of each bin one remains.
func TestSweptOfMoreCellsThanAShelfHas(t *testing.T) {
	hand := manyCells(3)
	for _, bins := range []int{199, 200, 201, 202, 300} {
		var shelves [][]impl.Cell
		for i := range 5 {
			first := i * (bins - 199) / 4
			shelves = append(shelves, spreadCells(first, 199, int64(10-i), int64(i)))
		}
		union := plainUnion(shelves)
		var kept []impl.Cell
		for i, c := range union {
			if i == 0 || !sameBin(c, union[i-1]) {
				kept = append(kept, c)
			}
		}
		if len(kept) != bins || len(union) != 5*199 {
			t.Fatal(len(kept), len(union))
		}
		b := barn(hand, shelves...)
		if bins <= 200 {
			checkSwept(t, b, 1, 1000000, barn(hand, kept), true)
			checkSwept(t, b, 1, 10, barn(hand, kept), true)
		} else {
			checkSwept(t, b, 1, 1000000, b, false)
		}
		checkSwept(t, b, 2, 1000000, b, false)
		checkSwept(t, b, 9, 1000000, b, false)
		checkSwept(t, b, 1, 0, b, false)
		checkSwept(t, b, 1, 9, b, false)
	}
}

func TestSweptOfFullShelves(t *testing.T) {
	hand := manyCells(200)
	full := spreadCells(0, 200, 7, 5)
	checkSwept(t, barn(hand, full), 1, 0, barn(hand, full), true)
	checkSwept(t, barn(hand, full, full, full, full, full), 9, 0, barn(hand, full), true)
	more := spreadCells(200, 1, 7, 5)
	checkSwept(t, barn(hand, full, more), 9, 0, barn(hand, full, more), false)
	checkSwept(t, barn(hand, more, full), 1, 1000000, barn(hand, more, full), false)
	// What is Gone is dropped before the cells are counted.
	goneMore := []impl.Cell{{Key: more[0].Key, Gone: true}}
	checkSwept(t, barn(hand, full, goneMore), 1, 1000000, barn(hand, full), true)
	checkSwept(t, barn(hand, full, goneMore), 1, 7, barn(hand, full), true)
	checkSwept(t, barn(hand, full, goneMore), 1, 6, barn(hand, full, goneMore), false)
}

func TestSweptOfWhichNothingRemains(t *testing.T) {
	gone := make([][]impl.Cell, 5)
	for i := range gone {
		for _, c := range spreadCells(i*200, 200, int64(i), 0) {
			gone[i] = append(gone[i], impl.Cell{Key: c.Key, Gone: true})
		}
	}
	hand := []impl.Cell{goneCell("a", "b", 0), goneCell("b", "b", 0)}
	for _, keep := range []int64{1, 9} {
		for _, from := range []int64{4, 5, 1000000} {
			for _, hand := range [][]impl.Cell{nil, hand} {
				for count := 1; count <= 5; count++ {
					checkSwept(t, barn(hand, gone[:count]...), keep, from, barn(hand), true)
				}
			}
		}
		checkSwept(t, barn(hand, gone[:1]...), keep, 0, barn(hand), true)
		checkSwept(t, barn(hand, gone[1:2]...), keep, 0, barn(hand, gone[1]), true)
	}
}

func TestSweptRejects(t *testing.T) {
	one := []impl.Cell{cell("a", "b", 7, 5)}
	for _, hand := range [][]impl.Cell{nil, one, manyCells(200)} {
		for _, keep := range []int64{0, 1, 9, 10} {
			for _, from := range []int64{-1, 0, 7, 1000000, 1000001} {
				checkSwept(t, barn(hand), keep, from, barn(hand), false)
			}
		}
		for _, b := range []impl.Barn{barn(hand, one), barn(hand, versions("a", "b", "vvvvvvvvvvvv", 0), one), barn(hand, one, manyCells(200), one, one, one)} {
			for _, keep := range []int64{0, 10, 11, -1, -9, 100, 257, 4294967297, -4294967295, math.MinInt64, math.MaxInt64} {
				for _, from := range []int64{-1, 0, 7, 1000000} {
					checkSwept(t, b, keep, from, b, false)
				}
			}
			for _, from := range notTimes() {
				for _, keep := range []int64{0, 1, 9} {
					checkSwept(t, b, keep, from, b, false)
				}
			}
		}
	}
	for _, b := range notBarns() {
		checkSwept(t, b, 1, 1000000, impl.Barn{}, false)
		checkSwept(t, b, 9, 0, impl.Barn{}, false)
		checkSwept(t, b, 0, 0, impl.Barn{}, false)
	}
}

// Whatever is done to a valid store, it remains valid, and holds what a store without shelves would.
func TestValidStoresRemainValid(t *testing.T) {
	source := rand.New(rand.NewSource(67))
	for range 40 {
		var b impl.Barn
		var all []impl.Cell
		for range 80 {
			switch source.Intn(8) {
			case 0, 1:
				b, _ = impl.Laid(b)
			case 2:
				b, _ = impl.Swept(b, 9, 0)
			default:
				c := anyCell(source)
				b, _ = impl.PutBarn(b, c)
				all = plainPut(all, c)
			}
			if !impl.BarnOk(b) {
				t.Fatalf("%+v", b)
			}
		}
		// Sweeping from time 0 drops only what is Gone at time 0, which is found nowhere else.
		empty := func(c impl.Cell) bool { return c.Gone && c.Key.Time == 0 }
		if got := impl.AllCells(b); !slices.Equal(slices.DeleteFunc(got, empty), slices.DeleteFunc(all, empty)) {
			t.Errorf("AllCells(%+v) = %+v, want %+v", b, got, all)
		}
	}
}

// A store whose lists are the same memory gives results whose lists are not.
func TestStoresWithSharedLists(t *testing.T) {
	l := manyCells(4)
	b := barn(l, l, l, l[:2:4])
	want := copyOfBarn(b)
	for what, got := range map[string]impl.Barn{
		"put": first(impl.PutBarn(b, cell("z", "z", 1, 1))), "not put": first(impl.PutBarn(b, impl.Cell{})), "laid": first(impl.Laid(b)), "not laid": first(impl.Laid(barn(nil, l, l, l))),
		"swept": first(impl.Swept(b, 9, 0)), "not swept": first(impl.Swept(b, 0, 0)),
	} {
		if !overwriteBarn(got) {
			t.Errorf("%s: two slices of the result share memory", what)
		}
		if !sameBarn(b, want) {
			t.Fatalf("%s: the result shares memory with the store", what)
		}
	}
}

func first(b impl.Barn, _ bool) impl.Barn { return b }

func TestStoresAreNewMemoryEachTime(t *testing.T) {
	b := barn(manyCells(4), manyCells(3), manyCells(2))
	for what, call := range map[string]func() impl.Barn{
		"put":       func() impl.Barn { return first(impl.PutBarn(b, cell("z", "z", 1, 1))) },
		"not put":   func() impl.Barn { return first(impl.PutBarn(b, impl.Cell{})) },
		"laid":      func() impl.Barn { return first(impl.Laid(b)) },
		"not laid":  func() impl.Barn { return first(impl.Laid(barn(nil, b.Shelves...))) },
		"swept":     func() impl.Barn { return first(impl.Swept(b, 9, 0)) },
		"not swept": func() impl.Barn { return first(impl.Swept(b, 0, 0)) },
		"all cells": func() impl.Barn { return barn(impl.AllCells(b)) },
	} {
		one, two := call(), call()
		want := copyOfBarn(two)
		overwriteBarn(one)
		if !sameBarn(two, want) {
			t.Errorf("%s: two results share memory", what)
		}
	}
}
