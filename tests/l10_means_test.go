package tests

import (
	"fmt"
	"math"
	"math/rand"
	"runtime/debug"
	"slices"
	"strconv"
	"strings"
	"testing"

	"loop.example/g00526/impl"
)

// course is a plain execution: its methods return the code, and go on only where that is EnDone.
type course struct {
	scene
	fuel int64
}

func (c *course) all(steps []step) int64 {
	for _, s := range steps {
		if code := c.one(s); code != impl.EnDone {
			return code
		}
	}
	return impl.EnDone
}

func (c *course) one(s step) int64 {
	switch s.head {
	case "stop":
		return impl.EnStop
	case "cut":
		c.bins = plainCut(c.bins, s.name)
		return impl.EnDone
	case "while":
		if c.fuel == 0 {
			return impl.EnFuel
		}
		c.fuel--
	}
	value, known := s.sums[0].value(c.bins, c.given)
	if !known {
		return impl.EnZero
	}
	switch {
	case s.head == "set":
		return c.set(s.name, value)
	case s.head == "if" && value == 0:
		return c.all(s.blocks[1])
	case value == 0:
		return impl.EnDone
	}
	if code := c.all(s.blocks[0]); code != impl.EnDone || s.head == "if" {
		return code
	}
	return c.one(s)
}

func (c *course) set(name string, value int64) int64 {
	bins := plainSet(c.bins, name, value)
	if len(bins) > 12 {
		return impl.EnFull
	}
	c.bins = bins
	return impl.EnDone
}

// plainMeans takes a scene and a fuel that are valid.
func plainMeans(l []string, s scene, fuel int64) impl.End {
	steps, is := plainRecipe(l)
	if !is {
		return halved(impl.EnBad, s)
	}
	c := course{s, fuel}
	if code := c.all(steps); code != impl.EnDone {
		return halved(code, s)
	}
	return impl.End{Code: impl.EnDone, Bins: c.bins, Fuel: c.fuel}
}

// halved returns the End of every recipe that is not done: the bins are the original ones.
func halved(code int64, s scene) impl.End { return impl.End{Code: code, Bins: s.bins} }

func sameEnd(a, b impl.End) bool {
	return a.Code == b.Code && slices.Equal(a.Bins, b.Bins) && a.Fuel == b.Fuel
}

func wantedSteps(end impl.End, fuel int64) int64 {
	switch end.Code {
	case impl.EnDone:
		return fuel - end.Fuel
	case impl.EnFuel:
		return fuel
	}
	return -1
}

// checkMeans also checks Steps, that the arguments stay as they were, and that the result is other memory. In the unused
// capacity of the arguments stands what would make others of them if it counted.
func checkMeans(t *testing.T, l []string, s scene, fuel int64, want impl.End) {
	t.Helper()
	for _, room := range behindTokens() {
		tokens, wholeTokens := roomyList(l, room)
		bins, wholeBins := roomyBins(s.bins, 3*len(room))
		given, wholeGiven := roomyList(s.given, []int64{1, 2, 3}[:min(len(room), 3)])
		beforeTokens, beforeBins, beforeGiven := slices.Clone(wholeTokens), slices.Clone(wholeBins), slices.Clone(wholeGiven)
		unchanged := func() bool {
			return slices.Equal(wholeTokens, beforeTokens) && slices.Equal(wholeBins, beforeBins) && slices.Equal(wholeGiven, beforeGiven)
		}
		got, steps := impl.Means(tokens, bins, given, fuel), impl.Steps(tokens, bins, given, fuel)
		if !sameEnd(got, want) || steps != wantedSteps(want, fuel) {
			t.Errorf("%s with %+v and %d = %+v in %d steps, want %+v", shownTokens(l), s, fuel, got, steps, want)
		}
		if !impl.Same(got, want) {
			t.Errorf("Same(%+v, %+v) = false", got, want)
		}
		if !unchanged() {
			t.Errorf("%s with %+v and %d changed an argument or its unused capacity", shownTokens(l), s, fuel)
		}
		overwriteBins(got.Bins)
		if !unchanged() {
			t.Errorf("the result of %s with %+v and %d shares memory with an argument", shownTokens(l), s, fuel)
		}
	}
}

func checkPlainMeans(t *testing.T, l []string, s scene, fuel int64) impl.End {
	t.Helper()
	want := plainMeans(l, s, fuel)
	checkMeans(t, l, s, fuel, want)
	return want
}

// checkQuickMeans is checkPlainMeans without the unused capacity, for very many calls.
func checkQuickMeans(t *testing.T, l []string, s scene, fuel int64) impl.End {
	t.Helper()
	want := plainMeans(l, s, fuel)
	got, steps := impl.Means(l, s.bins, s.given, fuel), impl.Steps(l, s.bins, s.given, fuel)
	if !sameEnd(got, want) || steps != wantedSteps(want, fuel) {
		t.Errorf("%s with %+v and %d = %+v in %d steps, want %+v", shownTokens(l), s, fuel, got, steps, want)
	}
	return want
}

// binsOfText returns the bins whose names and values are given in turns.
func binsOfText(text string) []impl.Bin {
	var l []impl.Bin
	parts := strings.Fields(text)
	for i := 0; i < len(parts); i += 2 {
		value, err := strconv.ParseInt(parts[i+1], 10, 64)
		if err != nil {
			panic(err)
		}
		l = append(l, bin(parts[i], value))
	}
	return l
}

// deedExample is a recipe that is executed with the arguments 5, -9 and the greatest word, with its code and the bins that
// are left. What it uses is the least fuel with which its code is not EnFuel.
type deedExample struct {
	text, bins string
	code       int64
	left       string
	used       int64
}

func exampleScene(bins string) scene { return scene{binsOfText(bins), usualScene().given} }

func checkDeedExamples(t *testing.T, examples []deedExample) {
	t.Helper()
	for _, ex := range examples {
		l, s := plainTokens(ex.text), exampleScene(ex.bins)
		for _, fuel := range []int64{ex.used, ex.used + 1, ex.used + 37, 400} {
			want := impl.End{Code: ex.code, Bins: binsOfText(ex.left)}
			if ex.code == impl.EnDone {
				want.Fuel = fuel - ex.used
			}
			checkMeans(t, l, s, fuel, want)
		}
		for fuel := range ex.used {
			checkMeans(t, l, s, fuel, impl.End{Code: impl.EnFuel, Bins: s.bins})
		}
	}
}

func TestEndNumbers(t *testing.T) {
	codes := []int64{impl.EnDone, impl.EnStop, impl.EnZero, impl.EnFuel, impl.EnFull, impl.EnBad}
	if !slices.Equal(codes, []int64{0, 1, 2, 3, 4, 5}) || impl.MaxFuel != 400 {
		t.Error(codes, impl.MaxFuel)
	}
}

func setExamples() []deedExample {
	return []deedExample{
		{"set a 1", "", impl.EnDone, "a 1", 0},
		{"set a 0", "", impl.EnDone, "a 0", 0},
		{"set a 1", "a 7", impl.EnDone, "a 1", 0},
		{"set a 7", "a 7", impl.EnDone, "a 7", 0},
		{"set b 1", "a 7 c 8", impl.EnDone, "a 7 b 1 c 8", 0},
		{"set d 1", "a 7 c 8", impl.EnDone, "a 7 c 8 d 1", 0},
		{"set b 1", "c 8", impl.EnDone, "b 1 c 8", 0},
		{"set c 1", "a 7 c 8 d 9", impl.EnDone, "a 7 c 1 d 9", 0},
		{"set a b", "b 7", impl.EnDone, "a 7 b 7", 0},
		{"set b a", "a 7 b 8", impl.EnDone, "a 7 b 7", 0},
		{"set a a", "a 7", impl.EnDone, "a 7", 0},
		{"set a @0", "", impl.EnDone, "a 5", 0},
		{"set a @1", "a 7", impl.EnDone, "a -9", 0},
		{"set abcdefgh @2", "", impl.EnDone, "abcdefgh 2147483647", 0},
		{"set a + @0 @1", "", impl.EnDone, "a -4", 0},
		{"set a + a 1", "a 7", impl.EnDone, "a 8", 0},
		{"set a - * b 3 / @0 2", "a 7 b 8", impl.EnDone, "a 22 b 8", 0},
		{"set a + 1 + 1 + 1 + 1 1", "", impl.EnDone, "a 5", 0},
		{"set set set", "set 7", impl.EnDone, "set 7", 0},
		{"set a 1 set b 2 set a 3", "", impl.EnDone, "a 3 b 2", 0},
		{"set a 1 set b a set a + a b", "", impl.EnDone, "a 2 b 1", 0},
		{"set a + a 1 set a + a 1 set a * a a", "a 7", impl.EnDone, "a 81", 0},
		{"set t a set a b set b t cut t", "a 7 b 8", impl.EnDone, "a 8 b 7", 0},
	}
}

func cutExamples() []deedExample {
	return []deedExample{
		{"cut a", "a 7", impl.EnDone, "", 0},
		{"cut a", "", impl.EnDone, "", 0},
		{"cut b", "a 7 c 8", impl.EnDone, "a 7 c 8", 0},
		{"cut b", "a 7 b 0 c 8", impl.EnDone, "a 7 c 8", 0},
		{"cut c", "a 7 b 0 c 8", impl.EnDone, "a 7 b 0", 0},
		{"cut a", "aa 7 ab 8", impl.EnDone, "aa 7 ab 8", 0},
		{"cut cut", "cut 7 set 8", impl.EnDone, "set 8", 0},
		{"cut a cut a", "a 7 b 8", impl.EnDone, "b 8", 0},
		{"cut b cut a", "a 7 b 8", impl.EnDone, "", 0},
		{"set a 1 cut a", "b 8", impl.EnDone, "b 8", 0},
		{"cut a set a 1", "a 7", impl.EnDone, "a 1", 0},
		{"cut a set b a", "a 7 b 8", impl.EnDone, "b 0", 0},
		{"cut a set a + a 1", "a 7", impl.EnDone, "a 1", 0},
	}
}

func ifExamples() []deedExample {
	return []deedExample{
		{"if = 1 1 [ set a 1 ] [ set b 2 ]", "", impl.EnDone, "a 1", 0},
		{"if = 1 2 [ set a 1 ] [ set b 2 ]", "", impl.EnDone, "b 2", 0},
		{"if = 1 1 [ set a 1 ] [ ]", "", impl.EnDone, "a 1", 0},
		{"if = 1 2 [ set a 1 ] [ ]", "", impl.EnDone, "", 0},
		{"if = 1 1 [ ] [ set b 2 ]", "", impl.EnDone, "", 0},
		{"if = 1 2 [ ] [ set b 2 ]", "", impl.EnDone, "b 2", 0},
		{"if = 1 1 [ ] [ ]", "a 7", impl.EnDone, "a 7", 0},
		{"if = 1 2 [ ] [ ]", "a 7", impl.EnDone, "a 7", 0},
		{"if < a b [ set c 1 ] [ set c 2 ]", "a 7 b 8", impl.EnDone, "a 7 b 8 c 1", 0},
		{"if < b a [ set c 1 ] [ set c 2 ]", "a 7 b 8", impl.EnDone, "a 7 b 8 c 2", 0},
		{"if & < a b = @0 5 [ set c 1 ] [ cut a ]", "a 7 b 8", impl.EnDone, "a 7 b 8 c 1", 0},
		{"if & < a b = @0 6 [ set c 1 ] [ cut a ]", "a 7 b 8", impl.EnDone, "b 8", 0},
		{"if = c 0 [ cut a ] [ cut b ]", "a 7 b 8", impl.EnDone, "b 8", 0},
		{"if = a 7 [ set a 1 set b a ] [ ] set c b", "a 7", impl.EnDone, "a 1 b 1 c 1", 0},
		{"if = a 7 [ set a 1 ] [ ] if = a 7 [ set b 1 ] [ set b 2 ]", "a 7", impl.EnDone, "a 1 b 2", 0},
		{"if = a 7 [ if = b 8 [ cut a ] [ cut b ] ] [ cut c ]", "a 7 b 8 c 9", impl.EnDone, "b 8 c 9", 0},
		{"if = a 7 [ if = b 9 [ cut a ] [ cut b ] ] [ cut c ]", "a 7 b 8 c 9", impl.EnDone, "a 7 c 9", 0},
		{"if = a 9 [ if = b 9 [ cut a ] [ cut b ] ] [ cut c ]", "a 7 b 8 c 9", impl.EnDone, "a 7 b 8", 0},
		{"if = a 9 [ ] [ if = b 9 [ ] [ if = c 9 [ cut c ] [ ] ] ]", "a 7 b 8 c 9", impl.EnDone, "a 7 b 8", 0},
		{"if = 1 1 [ if = 1 1 [ if = 1 1 [ if = 1 1 [ if = 1 1 [ set a 1 ] [ ] ] [ ] ] [ ] ] [ ] ] [ ]", "", impl.EnDone, "a 1", 0},
	}
}

func whileExamples() []deedExample {
	return []deedExample{
		{"while = 1 2 [ ]", "", impl.EnDone, "", 1},
		{"while = 1 2 [ set a 1 ]", "b 8", impl.EnDone, "b 8", 1},
		{"while < a 1 [ set a 1 ]", "", impl.EnDone, "a 1", 2},
		{"while < a 3 [ set a + a 1 ]", "", impl.EnDone, "a 3", 4},
		{"while < a @0 [ set a + a 1 ]", "a -5", impl.EnDone, "a 5", 11},
		{"while = a 7 [ cut a ]", "a 7", impl.EnDone, "", 2},
		{"while & < 0 a < 0 b [ set a - a 1 set b - b 2 ]", "a 9 b 7", impl.EnDone, "a 5 b -1", 5},
		{"while < a 1 [ ]", "a 1", impl.EnDone, "a 1", 1},
		{"while = 1 2 [ ] while = 1 2 [ ]", "", impl.EnDone, "", 2},
		{"while < a 2 [ set a + a 1 ] while < a 4 [ set a + a 1 ]", "", impl.EnDone, "a 4", 6},
		{"while < a 3 [ set a + a 1 while < b 2 [ set b + b 1 ] ]", "", impl.EnDone, "a 3 b 2", 9},
		{"while < a 3 [ set a + a 1 set b 0 while < b 2 [ set b + b 1 set c + c 1 ] ]", "", impl.EnDone, "a 3 b 2 c 6", 13},
		{"while < a 3 [ while < a 2 [ set a + a 1 ] set a + a 1 ]", "", impl.EnDone, "a 3", 5},
		{"while = 1 2 [ while = 1 1 [ ] ]", "", impl.EnDone, "", 1},
		{"if = 1 1 [ while < a 3 [ set a + a 1 ] ] [ ]", "", impl.EnDone, "a 3", 4},
		{"if = 1 1 [ ] [ while < a 3 [ set a + a 1 ] ]", "", impl.EnDone, "", 0},
		{"if = 1 2 [ ] [ while < a 3 [ set a + a 1 ] ]", "", impl.EnDone, "a 3", 4},
		{"while < a 4 [ set a + a 1 if < a 3 [ set b + b 1 ] [ set c + c 1 ] ]", "", impl.EnDone, "a 4 b 2 c 2", 5},
		{"while < a 3 [ if = a 0 [ set a 2 ] [ set a + a 1 ] ]", "", impl.EnDone, "a 3", 3},
		{"set a 1 while < a 100 [ set a + a a ] set b a", "", impl.EnDone, "a 128 b 128", 8},
	}
}

func stopExamples() []deedExample {
	return []deedExample{
		{"stop", "", impl.EnStop, "", 0},
		{"stop", "a 7", impl.EnStop, "a 7", 0},
		{"stop stop", "a 7", impl.EnStop, "a 7", 0},
		{"stop set a 1", "a 7", impl.EnStop, "a 7", 0},
		{"set a 1 stop", "a 7", impl.EnStop, "a 7", 0},
		{"set a 1 stop cut b", "a 7 b 8", impl.EnStop, "a 7 b 8", 0},
		{"cut a set b 1 set c 2 stop", "a 7", impl.EnStop, "a 7", 0},
		{"stop set a / 1 0", "", impl.EnStop, "", 0},
		{"stop while = 1 1 [ ]", "", impl.EnStop, "", 0},
		{"if = 1 1 [ stop ] [ ] set a 1", "a 7", impl.EnStop, "a 7", 0},
		{"if = 1 1 [ ] [ stop ] set a 1", "a 7", impl.EnDone, "a 1", 0},
		{"if = 1 2 [ stop ] [ set b 2 ] set a 1", "a 7", impl.EnDone, "a 1 b 2", 0},
		{"if = 1 2 [ set b 2 ] [ stop ] set a 1", "a 7", impl.EnStop, "a 7", 0},
		{"if = 1 1 [ set a 1 stop set a 2 ] [ ]", "a 7", impl.EnStop, "a 7", 0},
		{"while = 1 1 [ stop ]", "a 7", impl.EnStop, "a 7", 1},
		{"while = 1 2 [ stop ]", "a 7", impl.EnDone, "a 7", 1},
		{"while = 1 1 [ set a + a 1 stop ] set b 1", "a 7", impl.EnStop, "a 7", 1},
		{"while < a 9 [ set a + a 1 if = a 9 [ stop ] [ ] ]", "a 5", impl.EnStop, "a 5", 4},
		{"while = 1 1 [ while = 1 1 [ stop ] ]", "a 7", impl.EnStop, "a 7", 2},
		{"while < a 3 [ set a + a 1 ] stop", "", impl.EnStop, "", 4},
	}
}

func zeroExamples() []deedExample {
	return []deedExample{
		{"set a / 1 0", "", impl.EnZero, "", 0},
		{"set a / 0 0", "a 7", impl.EnZero, "a 7", 0},
		{"set a / a b", "a 7", impl.EnZero, "a 7", 0},
		{"set a / a b", "a 7 b 0", impl.EnZero, "a 7 b 0", 0},
		{"set a + 1 * 0 / 1 - 3 3", "a 7", impl.EnZero, "a 7", 0},
		{"cut b set a / a b", "a 7 b 8", impl.EnZero, "a 7 b 8", 0},
		{"set a 1 set b 2 set c / a - a a", "b 8", impl.EnZero, "b 8", 0},
		{"set a / 1 0 stop", "a 7", impl.EnZero, "a 7", 0},
		{"set a / 1 0 set a 1", "a 7", impl.EnZero, "a 7", 0},
		{"if < / 1 0 1 [ set a 1 ] [ set a 2 ]", "a 7", impl.EnZero, "a 7", 0},
		{"if & = 1 2 = 1 / 1 0 [ set a 1 ] [ set a 2 ]", "a 7", impl.EnZero, "a 7", 0},
		{"if & = 1 / 1 0 = 1 2 [ ] [ ]", "a 7", impl.EnZero, "a 7", 0},
		{"set a 1 if = a / b c [ ] [ ]", "a 7", impl.EnZero, "a 7", 0},
		{"if = 1 1 [ set a 1 set a / a 0 ] [ ]", "a 7", impl.EnZero, "a 7", 0},
		{"if = 1 2 [ set a / a 0 ] [ ]", "a 7", impl.EnDone, "a 7", 0},
		{"while = 1 / 1 0 [ ]", "a 7", impl.EnZero, "a 7", 1},
		{"while & = 1 2 = 1 / 1 0 [ set a 1 ]", "a 7", impl.EnZero, "a 7", 1},
		{"while < a 3 [ set a / 1 0 ]", "", impl.EnZero, "", 1},
		{"while < / 6 a 9 [ set a - a 1 ]", "a 3", impl.EnZero, "a 3", 4},
		{"while < 0 a [ set a - a 1 set b / 6 a ]", "a 3", impl.EnZero, "a 3", 3},
		{"set b 1 cut a while < 0 / 1 a [ ]", "a 7", impl.EnZero, "a 7", 1},
		{"set a / -2147483648 -1", "", impl.EnDone, "a -2147483648", 0},
		{"set a / 0 1", "", impl.EnDone, "a 0", 0},
	}
}

// deedExamples are those of every code but EnFull and EnBad; that of EnFuel is there for every fuel less than what is used.
func deedExamples() []deedExample {
	return slices.Concat(setExamples(), cutExamples(), ifExamples(), whileExamples(), stopExamples(), zeroExamples())
}

func TestMeansOfSet(t *testing.T) { checkDeedExamples(t, setExamples()) }

func TestMeansOfCut(t *testing.T) { checkDeedExamples(t, cutExamples()) }

func TestMeansOfIf(t *testing.T) { checkDeedExamples(t, ifExamples()) }

func TestMeansOfWhile(t *testing.T) { checkDeedExamples(t, whileExamples()) }

func TestMeansOfStop(t *testing.T) { checkDeedExamples(t, stopExamples()) }

func TestMeansOfDivisionsByNothing(t *testing.T) { checkDeedExamples(t, zeroExamples()) }

func TestStepsExamples(t *testing.T) {
	s := exampleScene("a 7")
	for text, want := range map[string][3]int64{
		"": {0, 0, 0}, "set a 1": {0, 0, 0}, "cut a": {0, 0, 0}, "stop": {-1, -1, -1}, "set a / 1 0": {-1, -1, -1}, "if = 1 1 [ ] [ stop ]": {0, 0, 0},
		"while = 1 2 [ ]": {0, 1, 1}, "while = 1 1 [ ]": {0, 3, 400}, "while = 1 1 [ stop ]": {0, -1, -1}, "while < a 9 [ set a + a 1 ]": {0, 3, 3},
		"while < a 10 [ set a + a 1 ]": {0, 3, 4}, "while < a 11 [ set a + a 1 ] stop": {0, 3, -1}, "while = / 1 0 1 [ ]": {0, -1, -1}, "what": {-1, -1, -1},
	} {
		for i, fuel := range []int64{0, 3, 400} {
			if got := impl.Steps(plainTokens(text), s.bins, s.given, fuel); got != want[i] {
				t.Errorf("Steps(%q) with %d = %d, want %d", text, fuel, got, want[i])
			}
		}
	}
}

func TestMeansOfTheEmptyRecipe(t *testing.T) {
	for _, l := range [][]string{nil, {}, make([]string, 0, 9)} {
		for _, bins := range someBins() {
			for _, fuel := range []int64{0, 1, 2, 399, 400} {
				checkMeans(t, l, scene{bins, []int64{1, 2, 3}}, fuel, impl.End{Code: impl.EnDone, Bins: bins, Fuel: fuel})
			}
		}
	}
}

func TestMeansWithoutFuel(t *testing.T) {
	s := exampleScene("a 7")
	for text, want := range map[string]impl.End{
		"":                                 {Code: impl.EnDone, Bins: binsOfText("a 7")},
		"set a 1 cut b":                    {Code: impl.EnDone, Bins: binsOfText("a 1")},
		"if = a 7 [ cut a ] [ ]":           {Code: impl.EnDone},
		"stop":                             {Code: impl.EnStop, Bins: s.bins},
		"stop while = 1 2 [ ]":             {Code: impl.EnStop, Bins: s.bins},
		"set a / 1 0 while = 1 2 [ ]":      {Code: impl.EnZero, Bins: s.bins},
		"while = 1 2 [ ]":                  {Code: impl.EnFuel, Bins: s.bins},
		"while = 1 2 [ ] stop":             {Code: impl.EnFuel, Bins: s.bins},
		"set a 1 while = 1 2 [ ]":          {Code: impl.EnFuel, Bins: s.bins},
		"while = 1 / 1 0 [ ]":              {Code: impl.EnFuel, Bins: s.bins},
		"if = 1 1 [ ] [ while = 1 2 [ ] ]": {Code: impl.EnDone, Bins: s.bins},
		"if = 1 2 [ ] [ while = 1 2 [ ] ]": {Code: impl.EnFuel, Bins: s.bins},
		"cut a if = a 0 [ while = 1 2 [ ]": {Code: impl.EnBad, Bins: s.bins},
	} {
		checkMeans(t, plainTokens(text), s, 0, want)
	}
}

// The division comes with the last fuel: with one less, the fuel is missing first.
func TestMeansOfADivisionByNothingWithTheLastFuel(t *testing.T) {
	for text, last := range map[string]int64{
		"while = 1 / 1 0 [ ]":                                                       1,
		"while = 1 2 [ ] while = 1 / 1 0 [ ]":                                       2,
		"while < 0 / 8 a [ set a - a 1 ]":                                           8,
		"set a 399 while < 0 / 1000 a [ set a - a 1 ]":                              400,
		"set a 20 while < 0 a [ set a - a 1 set b / 1 - a 3 ]":                      17,
		"while < 0 a [ set b 2 while < 0 / 8 b [ set b - b 1 ] set a - a 1 ]":       4,
		"while < 0 a [ set a - a 1 if < 0 / 1 a [ ] [ ] while = 1 2 [ stop ] ]":     13,
		"set a 200 while < 0 a [ set a - a 1 while < 0 / 1 a [ set b a cut a ] ]":   399,
		"set a 200 while < 0 a [ set a - a 1 while < / 200 a 0 [ set b a ] cut b ]": 400,
	} {
		l, s := plainTokens(text), exampleScene("a 7")
		checkMeans(t, l, s, last-1, halved(impl.EnFuel, s))
		for _, fuel := range []int64{last, min(last+1, 400), 400} {
			checkMeans(t, l, s, fuel, halved(impl.EnZero, s))
		}
	}
}

func TestMeansWithFullBins(t *testing.T) {
	full := manyBins(12)
	given := usualScene().given
	last, missing := full[11].Name, []string{"aaa", "z", binNames[12]}
	for _, name := range missing {
		for text, code := range map[string]int64{
			"set %s 1": impl.EnFull, "set %s 0": impl.EnFull, "set %[1]s %[1]s": impl.EnFull, "set a 1 set %s 1": impl.EnFull, "set %s / 1 0": impl.EnZero,
			"cut %[1]s set %[1]s 1": impl.EnFull, "set %s 1 cut a": impl.EnFull, "set %s 1 stop": impl.EnFull, "stop set %s 1": impl.EnStop,
			"cut a set %s 1 set a 1": impl.EnFull, "if = 1 1 [ set %s 1 ] [ ]": impl.EnFull, "if = 1 2 [ ] [ set %s 1 ]": impl.EnFull,
			"while = 1 1 [ set %s 1 ]": impl.EnFull, "cut zy cut zy set b 4 set %s 1": impl.EnFull, "set %s 1 set b / 1 0": impl.EnFull,
		} {
			checkMeans(t, plainTokens(fmt.Sprintf(text, name)), scene{full, given}, 9, halved(code, scene{full, given}))
		}
		for text, want := range map[string][]impl.Bin{
			"set a 99":                                          plainSet(full, "a", 99),
			"set " + last + " 99":                               plainSet(full, last, 99),
			"set a 99 set b 98 set " + last + " 97":             plainSet(plainSet(plainSet(full, "a", 99), "b", 98), last, 97),
			"cut a set " + name + " 1":                          plainSet(plainCut(full, "a"), name, 1),
			"cut " + last + " set " + name + " 1":               plainSet(plainCut(full, last), name, 1),
			"cut a cut b set b 2 set " + name + " a":            plainSet(plainSet(plainCut(full, "a"), "b", 2), name, 0),
			"cut a set " + name + " 1 cut " + name + " set a 1": plainSet(full, "a", 1),
			"cut a set a 1":                                     plainSet(full, "a", 1),
			"cut " + name:                                       full,
			"if = 1 2 [ set " + name + " 1 ] [ ]":               full,
			"while = a 0 [ set " + name + " 1 ] set b 98":       plainSet(full, "b", 98),
		} {
			end := impl.End{Code: impl.EnDone, Bins: want, Fuel: 9}
			if strings.Contains(text, "while") {
				end.Fuel = 8
			}
			checkMeans(t, plainTokens(text), scene{full, given}, 9, end)
		}
	}
}

// Each bin but one is set for the first time; what is beyond MaxBins is not.
func TestMeansOfAsManyBinsAsThereCanBe(t *testing.T) {
	for count := range 15 {
		var text []string
		for i := range count {
			text = append(text, fmt.Sprintf("set %s %d", binNames[count-1-i], i))
		}
		l := plainTokens(strings.Join(text, " "))
		for already := range 13 {
			s := scene{manyBins(already), []int64{0, 0, 0}}
			end := checkPlainMeans(t, l, s, 3)
			if full := max(count, already) > 12; full != (end.Code == impl.EnFull) {
				t.Errorf("%d bins set in %d = %+v", count, already, end)
			}
		}
	}
}

func TestMeansOfWords(t *testing.T) {
	for _, n := range edgeWords() {
		s := scene{[]impl.Bin{bin("a", n), bin("b", 1)}, []int64{n, -1, n}}
		up, _ := wantedOfDid(impl.OpAdd, n, 1)
		down, _ := wantedOfDid(impl.OpLess, n, 1)
		square, _ := wantedOfDid(impl.OpTimes, n, n)
		for text, value := range map[string]int64{
			fmt.Sprint("set a ", n): n, "set a @0": n, "set a @2": n, "set a a": n, "set a + a b": up, "set a + a 1": up, "set a - a b": down, "set a + @0 @1": down, "set a * a @2": square,
			"set a + a 1 set a - a 1": n, "cut a set a @0": n, "if = a @0 [ set a @2 ] [ set a b ]": n, "if < a @0 [ set a b ] [ ]": n,
		} {
			checkMeans(t, plainTokens(text), s, 0, impl.End{Code: impl.EnDone, Bins: []impl.Bin{bin("a", value), bin("b", 1)}})
		}
	}
	for text, used := range map[string]int64{
		"set a 2147483645 while < 0 a [ set a + a 1 ]":                       4,
		"set a -2147483646 while < a 0 [ set a - a 1 ]":                      4,
		"set a -2147483648 set a - 0 a while < a 0 [ set a - a 1 ]":          2,
		"set a 1 while < 0 a [ set a * a 2 ]":                                32,
		"set a 2147483647 set a + a 1 while < -2147483648 a [ ]":             1,
		"set a -2147483648 while < a -2147483646 [ set a + a 1 ] set a -2":   3,
		"set a 65536 set a * a a while < a 1 [ set a + a 1 ] set b * a 7":    2,
		"set a / -2147483648 -1 while = a -2147483648 [ set a / a 2 ] cut a": 2,
	} {
		if got := impl.Steps(plainTokens(text), nil, []int64{0, 0, 0}, 400); got != used {
			t.Errorf("Steps(%q) = %d, want %d", text, got, used)
		}
		checkPlainMeans(t, plainTokens(text), scene{nil, []int64{0, 0, 0}}, 400)
	}
}

func TestMeansOfBinsThatAreNotThere(t *testing.T) {
	for _, bins := range someBins() {
		if len(bins) == 12 {
			continue
		}
		s := scene{bins, []int64{0, 1, 2}}
		for _, name := range append(binNames, "q", "set", "while") {
			for _, text := range []string{"set q %s", "set %[1]s %[1]s", "cut %[1]s set %[1]s %[1]s", "cut %[1]s set q + %[1]s 3", "cut %s if = %[1]s 0 [ set q 1 ] [ stop ]", "set q + 1 %s", "if = %s 0 [ ] [ set q 1 ]", "cut %s set q / 1 %[1]s"} {
				l := plainTokens(fmt.Sprintf(text, name))
				end := checkQuickMeans(t, l, s, 0)
				value, there := impl.ValueIn(end.Bins, "q")
				if text == "set q %s" && (!there || value != valuesOf(bins)[name]) {
					t.Errorf("%q with %+v = %+v", l, bins, end)
				}
			}
		}
	}
}

func TestMeansOfSomeRecipes(t *testing.T) {
	source := rand.New(rand.NewSource(101))
	for _, ex := range someRecipes() {
		for _, bins := range someBins() {
			checkQuickMeans(t, plainTokens(ex.text), scene{bins, anyScene(source).given}, 40)
		}
		for _, fuel := range []int64{0, 1, 2, 3, 5, 40, 400} {
			checkPlainMeans(t, plainTokens(ex.text), anyScene(source), fuel)
		}
	}
}

// notGiven returns lists that are not three words.
func notGiven() [][]int64 {
	lists := [][]int64{nil, {}, {1}, {1, 2}, {1, 2, 3, 4}, {0, 0, 0, 0}, {1, 2, 3, 4, 5, 6}, make([]int64, 300)}
	for _, n := range notWords() {
		lists = append(lists, []int64{n, 2, 3}, []int64{1, n, 3}, []int64{1, 2, n}, []int64{n, n, n})
	}
	return lists
}

func notFuel() []int64 {
	return []int64{
		-1, -2, -400, -401, 401, 402, 800, 1000, 1 << 31, 1 << 32, 1<<32 + 1, 1<<32 + 400, -1 << 31, -1 << 32, 1 - 1<<32, 1 << 62,
		math.MaxInt64, math.MaxInt64 - 1, math.MinInt64, math.MinInt64 + 1,
	}
}

func notRecipes() []string {
	return []string{
		"what", "]", "[", "[ ]", "stop ]", "] stop", "set", "set a", "set a +", "set a < 1 2", "set a 1 2", "set A 1", "set 1 1", "set a 1 what", "set a 1 ]", "set a 1 stop ]", "cut", "cut 1", "cut a cut",
		"set a @3", "set a 2147483648", "set a 01", "if a [ ] [ ]", "if < a 1 [ ]", "if < a 1 [ stop ] [", "if = 1 1 [ set a 1 ] [ what ]", "while 1 [ ]", "while = 1 2 [", "while = 1 2 [ what ]", "while = 1 1 [ ] ]",
		"set a / 1 0 what", "stop what", "set a + 1 + 1 + 1 + 1 + 1 1", wrappedText("stop", slices.Repeat([]int{1}, 6)), strings.Repeat("stop ", 120) + "stop", strings.Repeat("set a 1 ", 40) + "stop",
	}
}

// goodRecipes would each have another code if it was executed.
func goodRecipes() []string {
	return []string{"", "set b 1 cut a", "set b @2", "stop", "set a / 1 0", "while = 1 1 [ ]", "set a 1 set b 2 set c 3 set d 4 set e 5 set f 6 set g 7 set h 8 set i 9 set j 10 set k 11 set l 12 set m 13"}
}

func TestMeansRejectsWhatIsNoRecipe(t *testing.T) {
	for _, text := range notRecipes() {
		for _, bins := range []string{"", "a 7", "a 7 b -8 c 9"} {
			s := exampleScene(bins)
			for _, fuel := range []int64{0, 1, 400} {
				checkMeans(t, plainTokens(text), s, fuel, halved(impl.EnBad, s))
			}
		}
	}
	s := usualScene()
	for _, l := range [][]string{{""}, {"", ""}, {"cut a"}, {"stop", ""}, {"", "stop"}, {"set a", "1"}, {"set", "a 1"}, {"stop", " "}, {"set", "a", "1\n"}, {"STOP"}, {"stop\x00"}} {
		checkMeans(t, l, s, 4, halved(impl.EnBad, s))
	}
	for _, bad := range badTokens() {
		for _, l := range [][]string{{bad}, {"set", "a", bad}, {"set", "a", "+", "1", bad}, {"stop", bad}, {"while", "=", "1", bad, "[", "]"}} {
			checkPlainMeans(t, l, s, 4)
		}
	}
}

func TestMeansRejectsBins(t *testing.T) {
	for what, bins := range notBins() {
		for _, text := range goodRecipes() {
			s := scene{bins, []int64{1, 2, 3}}
			for _, fuel := range []int64{0, 5} {
				got := impl.Means(plainTokens(text), bins, s.given, fuel)
				if !sameEnd(got, halved(impl.EnBad, s)) {
					t.Errorf("%q with bins of which %s = %+v", text, what, got)
				}
			}
			checkMeans(t, plainTokens(text), s, 400, halved(impl.EnBad, s))
		}
	}
}

func TestMeansRejectsWhatIsGiven(t *testing.T) {
	for _, given := range notGiven() {
		for _, text := range goodRecipes() {
			s := scene{binsOfText("a 7 b 8"), given}
			for _, fuel := range []int64{0, 400} {
				checkMeans(t, plainTokens(text), s, fuel, halved(impl.EnBad, s))
			}
		}
	}
}

func TestMeansRejectsFuel(t *testing.T) {
	for _, fuel := range notFuel() {
		for _, text := range goodRecipes() {
			s := exampleScene("a 7 b 8")
			checkMeans(t, plainTokens(text), s, fuel, halved(impl.EnBad, s))
		}
	}
	for _, fuel := range []int64{0, 1, 2, 199, 399, 400} {
		s := exampleScene("a 7 b 8")
		checkMeans(t, nil, s, fuel, impl.End{Code: impl.EnDone, Bins: s.bins, Fuel: fuel})
		checkMeans(t, plainTokens("while = 1 1 [ ]"), s, fuel, halved(impl.EnFuel, s))
	}
}

// Each argument is valid or not; only if all are, the recipe is executed.
func TestMeansRejectsSeveralAtOnce(t *testing.T) {
	badBins := [][]impl.Bin{{bin("b", 1), bin("a", 1)}, manyBins(13), {bin("", 0)}, {bin("a", greatestWord+1)}}
	badGiven := [][]int64{nil, {1, 2, 3, 4}, {1, 2, leastWord - 1}}
	for _, text := range slices.Concat([]string{"set a 1", "stop", "set a / 1 0"}, notRecipes()[:10]) {
		l := plainTokens(text)
		for _, bins := range append(badBins, binsOfText("a 7")) {
			for _, given := range append(badGiven, []int64{1, 2, 3}) {
				for _, fuel := range []int64{-1, 401, 7} {
					s := scene{bins, given}
					if impl.RecipeOk(l) && impl.BinsOk(bins) && len(given) == 3 && given[2] == 3 && fuel == 7 {
						checkPlainMeans(t, l, s, fuel)
					} else {
						checkMeans(t, l, s, fuel, halved(impl.EnBad, s))
					}
				}
			}
		}
	}
	got := impl.Means(plainTokens("what"), manyBins(13), nil, math.MinInt64)
	if !sameEnd(got, halved(impl.EnBad, scene{bins: manyBins(13)})) || impl.Steps(plainTokens("what"), manyBins(13), nil, math.MinInt64) != -1 {
		t.Error(got)
	}
}

// failures are recipes that are not done, with their codes and the least fuel that they need for these.
func failures() []deedExample {
	return []deedExample{
		{text: "stop", code: impl.EnStop},
		{text: "if = 1 1 [ set c 1 stop ] [ ]", code: impl.EnStop},
		{text: "while = 1 1 [ set c 1 stop ]", code: impl.EnStop, used: 1},
		{text: "set c / 1 0", code: impl.EnZero},
		{text: "set a / a gone", code: impl.EnZero},
		{text: "if = 1 / 1 0 [ set c 1 ] [ set c 2 ]", code: impl.EnZero},
		{text: "while = 1 / 1 0 [ set c 1 ]", code: impl.EnZero, used: 1},
		{text: "while = 1 1 [ set c 1 set c / c 0 ]", code: impl.EnZero, used: 1},
		{text: "while = 1 1 [ ]", code: impl.EnFuel},
		{text: "while = 1 1 [ set c + c 1 cut b ]", code: impl.EnFuel},
		{text: "while = 1 1 [ set c + c 1 while < d 3 [ set d + d 1 ] ]", code: impl.EnFuel},
		{text: "set e 1 set f 1 set g 1 set h 1 set i 1 set j 1 set k 1 set l 1 set m 1 set n 1 set o 1 set p 1 set q 1", code: impl.EnFull},
	}
}

func TestNothingIsDoneByHalves(t *testing.T) {
	for _, ex := range failures() {
		for _, before := range []string{"", "set a 1 ", "cut a ", "set aa 1 ", "cut b set b 2 ", "set a 1 cut b set aa 3 cut z ", "if = a 7 [ set a 8 cut b ] [ cut a ] ", "cut a cut b cut c cut z ", "set z z "} {
			for _, bins := range []string{"", "a 7", "a 7 b 8", "a 7 b 8 c 9 z -1", "b 0", "z -2147483648"} {
				s := exampleScene(bins)
				for _, fuel := range []int64{ex.used, ex.used + 1, 30, 400} {
					checkMeans(t, plainTokens(before+ex.text), s, fuel, halved(ex.code, s))
					checkMeans(t, plainTokens(before+ex.text+" set a 5 cut b"), s, fuel, halved(ex.code, s))
				}
			}
		}
	}
}

// A recipe that sets all bins, cuts them all and then ends badly leaves every list of bins as it was.
func TestNothingIsDoneByHalvesOfAnyBins(t *testing.T) {
	source := rand.New(rand.NewSource(102))
	for _, bins := range someBins() {
		var text []string
		for _, b := range bins {
			text = append(text, fmt.Sprintf("set %s %d", b.Name, edgeWords()[source.Intn(len(edgeWords()))]))
		}
		for i := range bins {
			text = append(text, "cut "+bins[(i+3)%len(bins)].Name)
		}
		l := plainTokens(strings.Join(text, " "))
		s := scene{bins, []int64{0, 0, 0}}
		checkMeans(t, l, s, 6, impl.End{Code: impl.EnDone, Fuel: 6})
		for end, code := range map[string]int64{"stop": impl.EnStop, "set a / 1 a": impl.EnZero, "while = 1 1 [ set a 1 ]": impl.EnFuel} {
			checkMeans(t, slices.Concat(l, plainTokens(end)), s, 6, halved(code, s))
		}
	}
}

// loopCounters are set by nothing but the loops that they count.
var loopCounters = []string{"i", "j", "k", "m", "n"}

var smallWords = []string{"0", "1", "2", "3", "-1", "5", "7", "-2147483648", "2147483647"}

func anySmallTree(source *rand.Rand, kind, depth int64) tree {
	if kind == 2 {
		return joined([]string{"<", "="}[source.Intn(2)], anySmallTree(source, 1, depth-1), anySmallTree(source, 1, depth-1))
	}
	if depth > 1 && source.Intn(3) != 0 {
		return joined([]string{"+", "-", "*", "+", "-", "*", "/"}[source.Intn(7)], anySmallTree(source, 1, depth-1), anySmallTree(source, 1, depth-1))
	}
	leaves := slices.Concat(smallWords, binNames[:6], loopCounters[:2], []string{"@0", "@1", "@2"})
	return tree{token: leaves[source.Intn(len(leaves))]}
}

// anyWork returns statements of which most can be done; loops end after a few rounds. It uses the counters from one on.
func anyWork(source *rand.Rand, counter, most int) []step {
	var made []step
	for range source.Intn(most + 1) {
		name := binNames[source.Intn(6)]
		number, truth := anySmallTree(source, 1, 1+source.Int63n(3)), anySmallTree(source, 2, 3)
		kind := source.Intn(12)
		switch {
		case kind < 4:
			made = append(made, step{head: "set", name: name, sums: []tree{number}})
		case kind < 6:
			made = append(made, step{head: "cut", name: name})
		case kind == 6 && source.Intn(4) == 0:
			made = append(made, step{head: "stop"})
		case kind < 9 && counter < 4:
			blocks := [][]step{anyWork(source, counter+1, most-1), anyWork(source, counter+1, most-1)}
			made = append(made, step{head: "if", sums: []tree{truth}, blocks: blocks})
		case counter < 4:
			made = append(made, anyLoop(source, counter, most)...)
		}
	}
	return made
}

func anyLoop(source *rand.Rand, counter, most int) []step {
	name := loopCounters[counter]
	here := tree{token: name}
	more := step{head: "set", name: name, sums: []tree{joined("+", here, tree{token: "1"})}}
	limit := tree{token: []string{"0", "1", "2", "3", "4", "9", "@0"}[source.Intn(7)]}
	block := append(anyWork(source, counter+1, most-1), more)
	if source.Intn(2) == 0 {
		block = append([]step{more}, block[:len(block)-1]...)
	}
	loop := step{head: "while", sums: []tree{joined("<", here, limit)}, blocks: [][]step{block}}
	if source.Intn(3) == 0 {
		return []step{loop}
	}
	return []step{{head: "set", name: name, sums: []tree{{token: "0"}}}, loop}
}

// anyUseful returns the tokens of a recipe of at least one statement.
func anyUseful(source *rand.Rand, most int) []string {
	for {
		if l := tokensOf(anyWork(source, 0, 5)); 0 < len(l) && len(l) <= most {
			return l
		}
	}
}

func anySmallScene(source *rand.Rand) scene {
	s := scene{given: []int64{source.Int63n(9), source.Int63n(9) - 4, edgeWords()[source.Intn(len(edgeWords()))]}}
	for range source.Intn(30) {
		if len(s.bins) < 12 {
			s.bins = plainSet(s.bins, binNames[source.Intn(len(binNames))], source.Int63n(9)-3)
		}
	}
	return s
}

func TestMeansOfAnyRecipes(t *testing.T) {
	source := rand.New(rand.NewSource(103))
	codes := map[int64]int{}
	for range 4000 {
		s, fuel := anySmallScene(source), []int64{0, 1, 2, 3, 5, 8, 13, 30, 100, 400}[source.Intn(10)]
		end := checkQuickMeans(t, anyUseful(source, 120), s, fuel)
		codes[end.Code]++
		if end.Code == impl.EnDone && end.Fuel < fuel {
			codes[-1]++
		}
	}
	for _, code := range []int64{-1, impl.EnDone, impl.EnStop, impl.EnZero, impl.EnFuel, impl.EnFull} {
		if codes[code] < 100 {
			t.Errorf("only %d recipes have the code %d", codes[code], code)
		}
	}
	for range 500 {
		checkPlainMeans(t, anyUseful(source, 120), anySmallScene(source), source.Int63n(401))
		checkPlainMeans(t, tokensOf(anyRecipe(source, 120)), anyScene(source), source.Int63n(401))
	}
}

// Each list of up to 4 of these statements is executed.
func TestMeansOfAllShortRecipes(t *testing.T) {
	parts := []string{
		"set a + a 1", "set b a", "cut a", "stop", "set a / 6 a", "if < a 2 [ set a 2 ] [ cut b ]", "while < a 3 [ set a + a 1 ]", "while = a 2 [ cut a set b + b 1 ]", "if = b 1 [ stop ] [ ]",
	}
	s := scene{binsOfText("b 1"), []int64{1, 2, 3}}
	lists := [][]string{nil}
	codes := map[int64]int{}
	for range 4 {
		var longer [][]string
		for _, l := range lists {
			for _, part := range parts {
				longer = append(longer, slices.Concat(l, plainTokens(part)))
			}
		}
		lists = longer
		for _, l := range lists {
			for _, fuel := range []int64{0, 3, 400} {
				codes[checkQuickMeans(t, l, s, fuel).Code]++
			}
		}
	}
	for code := range int64(4) {
		if codes[code] < 300 {
			t.Errorf("only %d recipes have the code %d", codes[code], code)
		}
	}
}

// enough returns the least fuel with which the code is not EnFuel, or 401 if that is the code with MaxFuel.
func enough(l []string, s scene) int64 {
	for fuel := range int64(401) {
		if impl.Means(l, s.bins, s.given, fuel).Code != impl.EnFuel {
			return fuel
		}
	}
	return 401
}

func endOf(l []string, s scene, fuel int64) impl.End { return impl.Means(l, s.bins, s.given, fuel) }

// checkFuel checks each fuel from 0 on, in these steps and up to MaxFuel, and those that are next to what is used.
func checkFuel(t *testing.T, l []string, s scene, by int64) int64 {
	t.Helper()
	used := enough(l, s)
	least := endOf(l, s, min(used, 400))
	for fuel := range int64(401) {
		if fuel%by != 0 && fuel != 400 && (fuel < used-2 || fuel > used+2) {
			continue
		}
		want := impl.End{Code: least.Code, Bins: least.Bins}
		if fuel < used {
			want = halved(impl.EnFuel, s)
		} else if least.Code == impl.EnDone {
			want.Fuel = fuel - used
		}
		if got, steps := endOf(l, s, fuel), impl.Steps(l, s.bins, s.given, fuel); !sameEnd(got, want) || steps != wantedSteps(want, fuel) {
			t.Errorf("%q with %+v and %d = %+v in %d steps, want %+v because it uses %d", l, s, fuel, got, steps, want, used)
		}
	}
	if least.Code == impl.EnDone && least.Fuel != 0 {
		t.Errorf("%q with %+v and %d = %+v, but needs no less", l, s, used, least)
	}
	return used
}

func TestMoreFuelThanUsedChangesOnlyWhatRemains(t *testing.T) {
	for _, ex := range deedExamples() {
		if got := checkFuel(t, plainTokens(ex.text), exampleScene(ex.bins), 1); got != ex.used {
			t.Errorf("%q with %s uses %d, want %d", ex.text, ex.bins, got, ex.used)
		}
	}
	for text, used := range map[string]int64{
		"while < a 398 [ set a + a 1 ]": 399, "while < a 399 [ set a + a 1 ]": 400, "while < a 400 [ set a + a 1 ]": 401, "while = 1 1 [ ]": 401,
		"while < a 399 [ set a + a 1 ] stop": 400, "while < a 399 [ set a + a 1 ] set b / 1 0": 400, "while < a 399 [ set a + a 1 ] while = 1 2 [ ]": 401,
	} {
		if got := checkFuel(t, plainTokens(text), scene{nil, []int64{0, 0, 0}}, 1); got != used {
			t.Errorf("%q uses %d, want %d", text, got, used)
		}
	}
}

func TestMoreFuelThanAnyRecipeUses(t *testing.T) {
	source := rand.New(rand.NewSource(104))
	counts := map[int64]int{}
	for range 1000 {
		l, s := anyUseful(source, 120), anySmallScene(source)
		used := checkFuel(t, l, s, 97)
		code := endOf(l, s, 400).Code
		if used > 0 {
			counts[code]++
		}
	}
	for _, code := range []int64{impl.EnDone, impl.EnStop, impl.EnZero} {
		if counts[code] < 10 {
			t.Errorf("only %d recipes with a while have the code %d", counts[code], code)
		}
	}
}

// checkOneAfterTheOther takes two recipes: the second one goes on with the bins and the fuel that the first one leaves.
func checkOneAfterTheOther(t *testing.T, a, b []string, s scene, fuel int64) int64 {
	t.Helper()
	want := endOf(a, s, fuel)
	if want.Code == impl.EnDone {
		want = endOf(b, scene{want.Bins, s.given}, want.Fuel)
	}
	if want.Code != impl.EnDone {
		want = halved(want.Code, s)
	}
	if got := endOf(slices.Concat(a, b), s, fuel); !sameEnd(got, want) {
		t.Errorf("%q and %q with %+v and %d = %+v, want %+v", a, b, s, fuel, got, want)
	}
	return want.Code
}

func TestTheSecondRecipeGoesOnWithWhatTheFirstOneLeaves(t *testing.T) {
	for _, a := range deedExamples() {
		for _, b := range deedExamples() {
			for _, fuel := range []int64{0, a.used, a.used + b.used, 400} {
				checkOneAfterTheOther(t, plainTokens(a.text), plainTokens(b.text), exampleScene(a.bins), fuel)
			}
		}
	}
	source := rand.New(rand.NewSource(105))
	codes := map[int64]int{}
	for range 2000 {
		a := anyUseful(source, 100)
		b := anyUseful(source, 120-len(a))
		fuel := source.Int63n(401)
		if source.Intn(2) == 0 {
			fuel %= 20
		}
		codes[checkOneAfterTheOther(t, a, b, anySmallScene(source), fuel)]++
	}
	for code := range int64(5) {
		if codes[code] < 50 {
			t.Errorf("only %d pairs have the code %d", codes[code], code)
		}
	}
}

// A while whose value is not 0 is its block and then the while again, with one fuel less.
func TestARoundOfAWhileIsItsBlock(t *testing.T) {
	source := rand.New(rand.NewSource(106))
	compared := 0
	for range 300 {
		block, s, fuel := tokensOf(anyWork(source, 1, 3)), anySmallScene(source), 1+source.Int63n(60)
		loop := slices.Concat(plainTokens("while < i 3 [ set i + i 1"), block, []string{"]"})
		unrolled := slices.Concat(plainTokens("while = 1 2 [ ] if < i 3 [ set i + i 1"), block, loop, plainTokens("] [ ]"))
		if len(unrolled) > 120 {
			continue
		}
		compared++
		if got, want := endOf(loop, s, fuel), endOf(unrolled, s, fuel); !sameEnd(got, want) || got.Code == impl.EnBad {
			t.Errorf("%q with %+v and %d = %+v, but %q is %+v", loop, s, fuel, got, unrolled, want)
		}
	}
	if compared < 150 {
		t.Errorf("only %d loops were compared", compared)
	}
}

// The number of rounds of a loop within a loop is known from theirs; all the fuel is used at the last round.
func TestLoopsWithinLoopsThatUseAllFuel(t *testing.T) {
	for text, used := range map[string]int64{
		"while < i 19 [ set j 0 while < j 19 [ set j + j 1 set a + a 1 ] set i + i 1 ]":                                   400,
		"while < i 7 [ set j 0 while < j 5 [ set k 0 while < k 9 [ set k + k 1 set a + a 1 ] set j + j 1 ] set i + i 1 ]": 400,
		"while < i 9 [ set j 0 while < j 38 [ set j + j 1 ] set i + i 1 ] while < a 39 [ set a + a 1 ]":                   401,
		"while < i 133 [ if < j 131 [ set j + j 1 ] [ ] while = 1 2 [ ] while = 1 2 [ ] set i + i 1 ]":                    400,
		"while < i 100 [ while = 1 2 [ ] while = 1 2 [ ] while = 1 2 [ ] set i + i 1 ]":                                   401,
	} {
		l, s := plainTokens(text), scene{nil, []int64{0, 0, 0}}
		if got := enough(l, s); got != used {
			t.Errorf("%q uses %d, want %d", text, got, used)
		}
		for _, fuel := range []int64{0, 1, 200, 398, 399, 400} {
			checkPlainMeans(t, l, s, fuel)
		}
	}
}

func TestLoopsThatNeverEnd(t *testing.T) {
	for _, text := range []string{
		"while = 1 1 [ ]", "while = 1 1 [ while = 1 1 [ ] ]", "while = 1 1 [ while = 1 2 [ ] ]", "while = 1 1 [ set a + a 1 cut b ]", "while = 1 1 [ if = a 8 [ set a 9 ] [ set a 8 ] ]",
		wrappedText("set a + a 1", []int{2, 2, 2, 2, 2}), strings.ReplaceAll(wrappedText("set b + b 1", []int{2, 2, 2, 2, 2}), "< a 1", "= 1 1"),
		"while = 1 1 [ " + strings.TrimSpace(strings.Repeat("cut a set a 1 ", 22)) + " ]", "while < 0 a [ while < 0 a [ while < 0 a [ while < 0 a [ while < 0 a [ ] ] ] ] ]",
		"while = 1 1 [ " + strings.TrimSpace(strings.Repeat("while = 1 1 [ ] ", 16)) + " ]", "while & = 1 1 & = 2 2 & = 3 3 = 4 4 [ set a + 1 + 1 + 1 + 1 a ]",
	} {
		l, s := plainTokens(text), exampleScene("a 7")
		if strings.Contains(text, "< a 1") {
			s = exampleScene("a -1000")
		}
		for _, fuel := range []int64{0, 1, 2, 5, 399, 400} {
			checkMeans(t, l, s, fuel, halved(impl.EnFuel, s))
		}
	}
}

// What is beyond every limit is rejected before anything is executed.
func TestMeansOfVeryMuch(t *testing.T) {
	defer debug.SetMaxStack(debug.SetMaxStack(8 << 20))
	count := 200000
	s := exampleScene("a 7")
	for before, behind := range map[string]string{"while = 1 1 [": "]", "if = 1 1 [": "] [ ]", "[": "]", "set a + 1 [": "1", "set a": "1", "stop": "", "stop stop": "stop ]", "while": "", "+": "1"} {
		checkMeans(t, deepDeeds(count, before, behind), s, 400, halved(impl.EnBad, s))
	}
	checkMeans(t, slices.Concat(plainTokens("set a"), deepOnTheLeft("+", count, []string{"1"})), s, 400, halved(impl.EnBad, s))
	for _, token := range []string{strings.Repeat("a", 1<<20), strings.Repeat("1", 1<<20), strings.Repeat("stop ", 1<<18)} {
		checkMeans(t, []string{"set", "a", token}, s, 400, halved(impl.EnBad, s))
		checkMeans(t, []string{token}, s, 400, halved(impl.EnBad, s))
	}
	many := make([]impl.Bin, 100000)
	for i := range many {
		many[i] = bin(fmt.Sprintf("a%06d", i), int64(i))
	}
	for _, bins := range [][]impl.Bin{many, slices.Repeat(manyBins(12), 5000), make([]impl.Bin, 100000)} {
		for _, text := range []string{"", "set a 1", "stop", "while = 1 1 [ ]", "what"} {
			checkMeans(t, plainTokens(text), scene{bins, s.given}, 400, halved(impl.EnBad, scene{bins, s.given}))
		}
	}
	checkMeans(t, plainTokens("set a 1"), scene{s.bins, make([]int64, count)}, 400, halved(impl.EnBad, s))
}

func TestMeansIsNewMemoryEachTime(t *testing.T) {
	for _, text := range []string{"", "set a 1", "set a a", "cut z", "cut a", "stop", "set a / 1 0", "while = 1 1 [ ]", "if = 1 2 [ ] [ ]", "set a 1 set q 2", "what"} {
		for _, bins := range append(someBins(), manyBins(13), []impl.Bin{bin("b", 1), bin("a", 1)}) {
			before := slices.Clone(bins)
			call := func() impl.End { return impl.Means(plainTokens(text), bins, []int64{1, 2, 3}, 5) }
			one, two := call(), call()
			want := slices.Clone(two.Bins)
			overwriteBins(one.Bins)
			if !slices.Equal(two.Bins, want) || !slices.Equal(bins, before) {
				t.Errorf("%q with %+v: two results share memory, or one shares it with an argument", text, before)
			}
			if three := call(); !slices.Equal(three.Bins, want) {
				t.Errorf("%q with %+v = %+v after a result was overwritten, want %+v", text, before, three, want)
			}
		}
	}
}

// checkSame checks both orders, and that the bins stay as they were.
func checkSame(t *testing.T, a, b impl.End, want bool) {
	t.Helper()
	for _, room := range []int{0, 1, 5} {
		first, wholeFirst := roomyBins(a.Bins, room)
		second, wholeSecond := roomyBins(b.Bins, 5-room)
		beforeFirst, beforeSecond := slices.Clone(wholeFirst), slices.Clone(wholeSecond)
		x, y := impl.End{Code: a.Code, Bins: first, Fuel: a.Fuel}, impl.End{Code: b.Code, Bins: second, Fuel: b.Fuel}
		if impl.Same(x, y) != want || impl.Same(y, x) != want {
			t.Errorf("Same of %+v and %+v = %v and, the other way, %v", a, b, impl.Same(x, y), impl.Same(y, x))
		}
		if !slices.Equal(wholeFirst, beforeFirst) || !slices.Equal(wholeSecond, beforeSecond) {
			t.Errorf("Same of %+v and %+v changed the bins or their unused capacity", a, b)
		}
	}
}

func someEnds() []impl.End {
	return []impl.End{
		{}, {Code: impl.EnStop}, {Code: impl.EnBad}, {Fuel: 1}, {Fuel: 400}, {Bins: binsOfText("a 7")}, {Bins: binsOfText("a 0")}, {Bins: binsOfText("b 7")}, {Bins: binsOfText("a -7")}, {Bins: binsOfText("a 7 b 8")},
		{Bins: binsOfText("a 7 c 8")}, {Bins: binsOfText("a 7 b 9")}, {Bins: binsOfText("a 8 b 7")}, {Bins: binsOfText("aa 7 b 8")}, {Bins: binsOfText("b 8")}, {Code: impl.EnFuel, Bins: binsOfText("a 7")},
		{Code: impl.EnZero, Bins: binsOfText("a 7 b 8"), Fuel: 3}, {Bins: manyBins(12)}, {Bins: manyBins(11)}, {Bins: manyBins(12)[1:]}, {Code: 1, Fuel: 1}, {Code: impl.EnFull, Bins: manyBins(12), Fuel: 4},
		// These are no results of Means, but Same compares them, too.
		{Bins: binsOfText("b 8 a 7")}, {Bins: binsOfText("a 7 a 7")}, {Bins: manyBins(13)}, {Bins: []impl.Bin{{}}}, {Bins: make([]impl.Bin, 2)}, {Code: 6}, {Code: -1}, {Fuel: -1}, {Fuel: 401}, {Code: 1 << 32}, {Fuel: 1 << 32},
		{Code: math.MaxInt64}, {Code: math.MinInt64}, {Fuel: math.MaxInt64}, {Fuel: math.MinInt64}, {Bins: []impl.Bin{bin("a", 1<<32+7)}}, {Bins: []impl.Bin{bin("A", 7)}}, {Bins: []impl.Bin{bin("", 7)}},
	}
}

func TestSame(t *testing.T) {
	for i, a := range someEnds() {
		for j, b := range someEnds() {
			checkSame(t, a, b, i == j)
		}
	}
	for _, bins := range [][]impl.Bin{nil, {}, make([]impl.Bin, 0, 4), manyBins(4)[:0]} {
		checkSame(t, impl.End{Code: 2, Bins: bins}, impl.End{Code: 2}, true)
		checkSame(t, impl.End{Code: 2, Bins: bins}, impl.End{Code: 2, Bins: manyBins(1)}, false)
	}
	long := impl.End{Bins: slices.Repeat(manyBins(12), 5000)}
	other := impl.End{Bins: slices.Clone(long.Bins)}
	checkSame(t, long, other, true)
	other.Bins[len(other.Bins)-1].Value++
	checkSame(t, long, other, false)
}

// Of two equal Ends, one is changed in one of its parts.
func TestSameOfEndsThatDifferInOnePart(t *testing.T) {
	source := rand.New(rand.NewSource(107))
	for _, bins := range someBins() {
		a := impl.End{Code: source.Int63n(6), Bins: bins, Fuel: source.Int63n(401)}
		checkSame(t, a, impl.End{Code: a.Code, Bins: slices.Clone(bins), Fuel: a.Fuel}, true)
		for _, by := range []int64{1, -1, 256, 1 << 32, -1 << 32} {
			checkSame(t, a, impl.End{Code: a.Code + by, Bins: bins, Fuel: a.Fuel}, false)
			checkSame(t, a, impl.End{Code: a.Code, Bins: bins, Fuel: a.Fuel + by}, false)
			checkSame(t, a, impl.End{Code: a.Fuel + 7*by, Bins: bins, Fuel: a.Code}, a.Fuel == a.Code && by == 0)
		}
		for i := range bins {
			value, name := slices.Clone(bins), slices.Clone(bins)
			value[i].Value ^= 1 << source.Intn(31)
			name[i].Name += "a"
			for _, changed := range [][]impl.Bin{value, name, slices.Delete(slices.Clone(bins), i, i+1), slices.Insert(slices.Clone(bins), i, bin("q", 0))} {
				checkSame(t, a, impl.End{Code: a.Code, Bins: changed, Fuel: a.Fuel}, false)
			}
		}
		checkSame(t, a, impl.End{Code: a.Code, Bins: append(slices.Clone(bins), bin("zzzzzzzz", 0)), Fuel: a.Fuel}, false)
	}
}
