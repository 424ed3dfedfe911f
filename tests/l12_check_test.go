package tests

import (
	"fmt"
	"math/rand"
	"slices"
	"strconv"
	"strings"
	"testing"

	"loop.example/g00526/impl"
)

// place is an instruction and how many values there are before it.
type place struct{ at, height int64 }

// plainNext returns the places after one whose instruction has this text, and whether there are enough values for it.
func plainNext(text string, p place) ([]place, bool) {
	head, operand, _ := strings.Cut(text, " ")
	target, _ := strconv.ParseInt(operand, 10, 64)
	switch head {
	case "push", "given", "load":
		return []place{{p.at + 1, p.height + 1}}, true
	case "do":
		return []place{{p.at + 1, p.height - 1}}, p.height >= 2
	case "set":
		return []place{{p.at + 1, p.height - 1}}, p.height >= 1
	case "unless":
		return []place{{p.at + 1, p.height - 1}, {target, p.height - 1}}, p.height >= 1
	case "go":
		return []place{{target, p.height}}, true
	case "stop", "end":
		return nil, true
	}
	return []place{{p.at + 1, p.height}}, true
}

// plainPlaces returns all places of the code with these texts, and none if one of them is not possible.
func plainPlaces(texts []string) map[place]bool {
	places := map[place]bool{}
	for open := []place{{0, 0}}; len(open) > 0; open = open[1:] {
		p := open[0]
		if places[p] {
			continue
		}
		if p.at >= int64(len(texts)) || p.height > 12 {
			return nil
		}
		next, enough := plainNext(texts[p.at], p)
		if !enough {
			return nil
		}
		places[p] = true
		open = append(open, next...)
	}
	return places
}

// plainHeights finds all places first, and then whether an instruction has two of them.
func plainHeights(code []impl.Op) []int64 {
	texts := textsOfOps(code)
	if len(texts) > 300 || slices.Contains(texts, "") {
		return nil
	}
	heights := slices.Repeat([]int64{-1}, len(texts))
	places := plainPlaces(texts)
	for p := range places {
		if heights[p.at] != -1 {
			return nil
		}
		heights[p.at] = p.height
	}
	if len(places) == 0 {
		return nil
	}
	return heights
}

func plainHighest(heights []int64) int64 {
	highest := int64(-1)
	for _, height := range heights {
		highest = max(highest, height)
	}
	return highest
}

// shownCode cuts long lists, and shows the fields of what is no instruction.
func shownCode(code []impl.Op) string {
	if len(code) > 400 {
		return fmt.Sprint(len(code), " instructions")
	}
	var texts []string
	for _, o := range code {
		text := plainShowOp(o)
		if text == "" {
			text = fmt.Sprintf("%+v", o)
		}
		texts = append(texts, text)
	}
	return strings.Join(texts, ", ")
}

// behindOps stands in the unused capacity of codes, where it would make another one or none if it counted.
func behindOps() [][]impl.Op {
	end := bareOp("end")
	return [][]impl.Op{nil, {end}, {{Kind: 99}, end}, slices.Repeat([]impl.Op{end}, 400)}
}

// checkQuickHeights checks all three functions without the unused capacity. No heights are wanted for what is not checked.
func checkQuickHeights(t *testing.T, code []impl.Op, want []int64) {
	t.Helper()
	if got := impl.HeightsOf(code); !slices.Equal(got, want) {
		t.Errorf("HeightsOf(%s) = %v, want %v", shownCode(code), got, want)
	}
	if got := impl.Checked(code); got != (len(want) > 0) {
		t.Errorf("Checked(%s) = %v", shownCode(code), got)
	}
	if got := impl.HighestOf(code); got != plainHighest(want) {
		t.Errorf("HighestOf(%s) = %d, want %d", shownCode(code), got, plainHighest(want))
	}
}

func checkHeights(t *testing.T, code []impl.Op, want []int64) {
	t.Helper()
	for _, room := range behindOps() {
		ops, whole := roomyList(code, room)
		before := slices.Clone(whole)
		checkQuickHeights(t, ops, want)
		if !slices.Equal(whole, before) {
			t.Errorf("%s or its unused capacity was changed", shownCode(code))
		}
	}
}

// checkPlainHeights returns whether the code is checked.
func checkPlainHeights(t *testing.T, code []impl.Op) bool {
	t.Helper()
	want := plainHeights(code)
	checkQuickHeights(t, code, want)
	return len(want) > 0
}

// codeOfText takes the texts of instructions, separated by commas.
func codeOfText(t *testing.T, text string) []impl.Op {
	t.Helper()
	if text == "" {
		return nil
	}
	return opsOfTexts(t, strings.Split(text, ", "))
}

// heightExample has no heights if its code is not checked.
type heightExample struct{ code, heights string }

func checkHeightExamples(t *testing.T, examples []heightExample) {
	t.Helper()
	for _, ex := range examples {
		var want []int64
		for _, height := range strings.Fields(ex.heights) {
			n, _ := strconv.ParseInt(height, 10, 64)
			want = append(want, n)
		}
		code := codeOfText(t, ex.code)
		checkHeights(t, code, want)
		if plain := plainHeights(code); !slices.Equal(plain, want) {
			t.Errorf("the plain heights of %q are %v, not %v", ex.code, plain, want)
		}
	}
}

// checkNoCode takes codes that are not checked.
func checkNoCode(t *testing.T, texts ...string) {
	t.Helper()
	for _, text := range texts {
		checkHeightExamples(t, []heightExample{{text, ""}})
	}
}

func TestHeightNumbers(t *testing.T) {
	if impl.MaxPile != 12 {
		t.Error(impl.MaxPile)
	}
}

func TestHeightsOfTheEmptyCode(t *testing.T) {
	checkHeights(t, nil, nil)
	checkHeights(t, []impl.Op{}, nil)
	if got := impl.HighestOf(nil); got != -1 {
		t.Errorf("HighestOf(nil) = %d", got)
	}
}

func straightExamples() []heightExample {
	return []heightExample{
		{"push 1, set a, end", "0 1 0"},
		{"given 2, set a, end", "0 1 0"},
		{"load b, set a, end", "0 1 0"},
		{"push 1, push 2, do 1, set a, end", "0 1 2 1 0"},
		{"push 1, given 0, load a, end", "0 1 2 3"},
		{"load a, push -2147483648, given 2, do 7, do 4, set c, stop", "0 1 2 3 2 1 0"},
		{"push 1, push 2, do 1, push 3, do 2, set a, end", "0 1 2 1 2 1 0"},
		{"push 1, push 2, set a, set b, end", "0 1 2 1 0"},
		{"push 1, push 2, set a, push 3, do 3, set b, end", "0 1 2 1 2 1 0"},
		{"cut a, tick, cut b, tick, stop", "0 0 0 0 0"},
		{"push 1, cut a, tick, push 2, cut b, tick, end", "0 1 1 1 2 2 2"},
		{"push 1, set a, push 2, set a, push 3, set a, stop", "0 1 0 1 0 1 0"},
	}
}

func jumpExamples() []heightExample {
	return []heightExample{
		// Forward.
		{"go 1, end", "0 0"},
		{"go 2, cut a, end", "0 -1 0"},
		{"push 1, go 3, set b, set a, end", "0 1 -1 1 0"},
		{"push 1, unless 2, end", "0 1 0"},
		{"push 1, unless 3, cut a, end", "0 1 0 0"},
		{"push 1, push 2, unless 5, set a, end, set b, stop", "0 1 2 1 0 1 0"},
		// Back.
		{"tick, go 0", "0 0"},
		{"go 3, cut a, end, go 1", "0 0 0 0"},
		{"tick, push 1, unless 0, end", "0 0 1 0"},
		{"push 1, tick, go 1", "0 1 1"},
		{"push 1, tick, load a, unless 1, set b, end", "0 1 1 2 1 0"},
		{"push 1, go 4, set a, end, tick, go 2", "0 1 1 0 1 1"},
		{"push 1, push 2, tick, load a, unless 2, go 2", "0 1 2 2 3 2"},
		// Two ways that meet again.
		{"load a, unless 4, cut b, go 5, cut c, end", "0 1 0 0 0 0"},
		{"load a, unless 5, push 1, set b, go 7, push 2, set b, end", "0 1 0 1 0 0 1 0"},
		{"load a, unless 4, push 1, go 5, push 2, set b, end", "0 1 0 1 0 1 0"},
		{"push 7, load a, unless 6, push 1, do 1, go 8, push 2, do 2, set b, end", "0 1 2 1 2 1 1 2 1 0"},
		{"load a, unless 3, cut b, cut c, end", "0 1 0 0 0"},
		{"load a, unless 6, load b, unless 6, load c, unless 6, end", "0 1 0 1 0 1 0"},
		{"load a, unless 4, push 1, go 6, push 2, push 3, do 1, end", ""},
		// Loops.
		{"tick, load a, push 3, do 5, unless 10, load a, push 1, do 1, set a, go 0, end", "0 0 1 2 1 0 1 2 1 0 0"},
		{"tick, load a, unless 4, go 0, end", "0 0 1 0 0"},
		{"tick, load a, unless 8, tick, load b, unless 7, go 3, go 0, end", "0 0 1 0 0 1 0 0 0"},
		{"push 9, tick, load a, unless 6, cut a, go 1, set b, end", "0 1 1 2 1 1 1 0"},
		{"go 2, end, load a, unless 1, go 2", "0 0 0 1 0"},
	}
}

func TestHeightsOfStraightCodes(t *testing.T) { checkHeightExamples(t, straightExamples()) }

func TestHeightsOfJumps(t *testing.T) { checkHeightExamples(t, jumpExamples()) }

func TestHeightsOfAllKindsInOneCode(t *testing.T) {
	checkHeightExamples(t, []heightExample{
		{"tick, push 1, given 0, do 1, load a, do 5, unless 10, cut b, go 12, stop, push 2, set c, end", "0 0 1 2 1 2 1 0 0 -1 0 1 0"},
		{"tick, push 1, given 0, load a, do 1, do 5, unless 9, cut b, stop, push 2, set c, go 12, end", "0 0 1 2 3 2 1 0 0 0 1 0 0"},
	})
}

func TestHeightsOfInstructionsThatAreNotReachable(t *testing.T) {
	checkHeightExamples(t, []heightExample{
		{"stop, end", "0 -1"},
		{"end, stop", "0 -1"},
		{"end, end, end", "0 -1 -1"},
		{"go 0, end", "0 -1"},
		{"go 2, end, stop", "0 -1 0"},
		{"go 2, go 1, stop", "0 -1 0"},
		{"cut a, go 4, cut b, cut c, cut d, stop, cut e, end", "0 0 -1 -1 0 0 -1 -1"},
		{"push 1, stop, set a, end", "0 1 -1 -1"},
		{"load a, unless 4, stop, cut b, end", "0 1 0 -1 0"},
		{"tick, go 0, end", "0 0 -1"},
		// They would have too few values.
		{"end, do 1", "0 -1"},
		{"stop, set a, unless 0", "0 -1 -1"},
		{"go 4, do 1, set a, unless 1, end", "0 -1 -1 -1 0"},
		{"go 2, do 7, push 1, set a, stop, do 1, end", "0 -1 0 1 0 -1 -1"},
		// They would have too many.
		{"go 14, " + strings.Repeat("push 1, ", 13) + "end", "0" + strings.Repeat(" -1", 13) + " 0"},
		{"end, " + strings.Repeat("push 1, ", 20) + "stop", "0" + strings.Repeat(" -1", 21)},
		// They jump, or go on, to an instruction that is reached with another height.
		{"go 3, push 1, go 3, end", "0 -1 -1 0"},
		{"go 2, push 1, end", "0 -1 0"},
		{"end, push 1, go 0", "0 -1 -1"},
		{"push 1, go 4, go 4, go 5, set a, end", "0 1 -1 -1 1 0"},
		{"push 1, stop, unless 1, go 0", "0 1 -1 -1"},
		{"go 4, load a, load b, unless 4, end", "0 -1 -1 -1 0"},
		// They jump, or go on, to each other with different heights.
		{"stop, push 1, go 1", "0 -1 -1"},
		{"stop, push 1, push 1, unless 1, end", "0 -1 -1 -1 -1"},
		// Where they go on does not exist.
		{"end, tick", "0 -1"},
		{"end, push 1", "0 -1"},
		{"end, go 2", "0 -1"},
		{"end, go 300", "0 -1"},
		{"stop, unless 3, unless 300", "0 -1 -1"},
		{"go 0, go 9, cut a", "0 -1 -1"},
		// They are a loop of their own, or lead to what is reachable.
		{"stop, tick, go 1", "0 -1 -1"},
		{"stop, go 2, go 1", "0 -1 -1"},
		{"cut a, end, go 0", "0 0 -1"},
		{"cut a, end, go 1, tick, go 2", "0 0 -1 -1 -1"},
	})
}

// An instruction that is not reachable can be any other one.
func TestInstructionsThatAreNotReachableDoNotCount(t *testing.T) {
	for _, text := range []string{"go 3, stop, stop, push 1, stop, stop", "push 1, go 6, stop, stop, stop, stop, set a, end", "load a, unless 3, stop, go 3, stop, stop", "end, stop, end, stop"} {
		code := codeOfText(t, text)
		heights := impl.HeightsOf(code)
		for i, height := range heights {
			for _, o := range someOps() {
				if other := slices.Clone(code); height == -1 {
					other[i] = o
					checkHeights(t, other, heights)
				}
			}
		}
		if !slices.Contains(heights, -1) {
			t.Errorf("HeightsOf(%q) = %v", text, heights)
		}
	}
}

// pushed returns a code that pushes so many values and goes on with these instructions.
func pushed(t *testing.T, count int, text string) []impl.Op {
	t.Helper()
	return slices.Concat(slices.Repeat([]impl.Op{numberOp("push", 1)}, count), codeOfText(t, text))
}

// upTo returns the heights of a code that pushes so many values, and the ones that follow.
func upTo(count int64, heights ...int64) []int64 {
	var all []int64
	for height := range count {
		all = append(all, height)
	}
	return append(all, heights...)
}

func TestHeightsWithTooFewValues(t *testing.T) {
	checkNoCode(t, "do 1, end", "push 1, do 1, end", "set a, end", "unless 1, end", "cut a, do 7, stop", "tick, set a, stop", "go 1, unless 2, stop")
	checkNoCode(t, "push 1, set a, set b, end", "push 1, push 2, do 1, do 1, end", "push 1, unless 2, unless 3, end", "push 1, unless 2, set a, end", "load a, set a, do 1, end")
	// Only one of two ways leads there.
	checkNoCode(t, "load a, unless 3, end, set a, end", "load a, unless 3, set a, end", "load a, load b, unless 4, end, do 1, end")
	for need, texts := range map[int][]string{2: {"do 1", "do 2", "do 3", "do 4", "do 5", "do 6", "do 7"}, 1: {"set a", "set zzzzzzzz"}} {
		for _, text := range texts {
			for count := range 13 {
				code := pushed(t, count, text+", stop")
				if count < need {
					checkHeights(t, code, nil)
				} else {
					checkHeights(t, code, upTo(int64(count), int64(count), int64(count-1)))
				}
			}
		}
	}
	for count := range 13 {
		code := slices.Concat(pushed(t, count, ""), []impl.Op{numberOp("unless", int64(count)+2), bareOp("stop"), bareOp("end")})
		if count < 1 {
			checkHeights(t, code, nil)
		} else {
			checkHeights(t, code, upTo(int64(count), int64(count), int64(count-1), int64(count-1)))
		}
	}
}

// These instructions work with any number of values.
func TestHeightsThatStay(t *testing.T) {
	for count := range int64(13) {
		for _, text := range []string{"cut a", "tick", fmt.Sprint("go ", count+1)} {
			checkHeights(t, pushed(t, int(count), text+", stop"), upTo(count, count, count))
		}
		for _, text := range []string{"stop", "end", fmt.Sprint("go ", count)} {
			checkHeights(t, pushed(t, int(count), text), upTo(count, count))
			checkHeights(t, pushed(t, int(count), text+", tick"), upTo(count, count, -1))
		}
	}
}

func TestHeightsOfMaxPile(t *testing.T) {
	for _, text := range []string{"push 1", "push 0", "given 0", "given 2", "load a"} {
		for count := range int64(30) {
			code := append(slices.Repeat(codeOfText(t, text), int(count)), bareOp("end"))
			if count <= 12 {
				checkHeights(t, code, upTo(count, count))
			} else {
				checkHeights(t, code, nil)
			}
		}
		checkHeights(t, pushed(t, 11, text+", stop"), upTo(12, 12))
		checkHeights(t, pushed(t, 12, text+", stop"), nil)
		checkHeights(t, pushed(t, 12, text+", set a, stop"), nil)
		checkHeights(t, pushed(t, 12, text+", do 1, stop"), nil)
		checkHeights(t, pushed(t, 12, text), nil)
		checkHeights(t, pushed(t, 12, "set a, "+text+", stop"), upTo(12, 12, 11, 12))
		checkHeights(t, pushed(t, 12, "do 1, "+text+", stop"), upTo(12, 12, 11, 12))
		checkHeights(t, pushed(t, 12, "do 1, "+text+", "+text+", stop"), nil)
		checkHeights(t, pushed(t, 12, "stop, "+text+", end"), upTo(12, 12, -1, -1))
	}
	checkHeights(t, pushed(t, 12, "cut a, tick, go 15, set a, do 1, unless 18, end"), upTo(12, 12, 12, 12, 12, 11, 10, 9))
}

// The height of 12 stays in a loop, and with each turn that leaves one more value there are two heights.
func TestHeightsOfMaxPileInLoops(t *testing.T) {
	checkHeights(t, pushed(t, 12, "tick, go 12"), upTo(12, 12, 12))
	checkHeights(t, pushed(t, 11, "tick, push 1, unless 11, stop"), upTo(11, 11, 11, 12, 11))
	checkHeights(t, pushed(t, 12, "tick, push 1, unless 12, stop"), nil)
	checkNoCode(t, "push 1, go 0", "tick, push 1, push 2, unless 0, end", "tick, load a, go 0")
	checkHeights(t, pushed(t, 12, "go 11"), nil)
	checkHeights(t, pushed(t, 12, "go 0"), nil)
}

func TestHeightsOfTwoDifferentWays(t *testing.T) {
	checkNoCode(t,
		// Two ways forward.
		"load a, unless 3, push 1, end",
		"load a, unless 3, push 1, set b, end",
		"load a, unless 4, push 1, go 4, end",
		"load a, unless 4, push 1, go 6, push 1, push 1, set b, end",
		"load a, load b, unless 4, set c, end",
		"load a, unless 3, go 4, push 1, end",
		"load a, unless 5, push 1, push 2, go 6, push 3, set b, end",
		// A jump back.
		"push 1, go 0",
		"load a, push 1, unless 0, end",
		"push 1, tick, set a, go 1",
		"tick, load a, unless 5, push 1, go 0, end",
		"cut a, push 1, tick, push 2, go 2",
		"cut a, push 1, unless 3, push 2, go 1",
		// An unless to itself or back before it.
		"push 1, unless 1, end",
		"push 1, push 2, unless 2, end",
		"push 1, push 2, unless 0, end",
		"push 1, push 2, push 3, unless 1, end",
	)
	checkHeightExamples(t, []heightExample{
		// The same height on each way, with as many instructions or not.
		{"load a, unless 5, push 1, set b, go 5, end", "0 1 0 1 0 0"},
		{"load a, unless 5, push 1, tick, go 6, push 2, set b, end", "0 1 0 1 1 0 1 0"},
		{"push 1, push 2, unless 1, end", "0 1 2 1"},
		{"push 1, push 2, push 3, unless 2, end", "0 1 2 3 2"},
		{"push 1, unless 0, end", "0 1 0"},
	})
}

// The place where two heights meet is found in whichever order the ways are followed.
func TestHeightsOfTwoDifferentWaysAtTheirEnds(t *testing.T) {
	for first := range int64(4) {
		for second := range int64(4) {
			for extra := range 3 {
				var way, other []impl.Op
				for range first {
					way = append(way, nameOp("load", "b"))
				}
				for range second {
					other = append(other, numberOp("given", 1))
				}
				way = slices.Concat(slices.Repeat([]impl.Op{bareOp("tick")}, extra), way)
				code := []impl.Op{nameOp("load", "a"), numberOp("unless", int64(len(way))+3)}
				behind := int64(len(way) + len(other) + 3)
				code = slices.Concat(code, way, []impl.Op{numberOp("go", behind)}, other, []impl.Op{bareOp("end")})
				if is := checkPlainHeights(t, code); is != (first == second) {
					t.Errorf("%s is checked: %v", shownCode(code), is)
				}
			}
		}
	}
}

func TestExecutionContinuesBehindTheEnd(t *testing.T) {
	checkNoCode(t,
		"tick", "cut a", "push 1", "given 0", "load a", "push 1, set a", "push 1, push 2, do 1", "push 1, unless 0", "push 1, unless 1", "push 1, unless 2", "go 1", "tick, go 2",
		"cut a, cut b", "push 1, set a, tick", "load a, unless 3, end, tick", "load a, unless 3, end, push 1", "load a, unless 4, stop, end, cut a", "go 2, end, tick", "tick, load a, unless 0", "push 1, push 1, unless 1",
	)
	for _, ex := range slices.Concat(straightExamples(), jumpExamples()) {
		if ex.heights == "" {
			continue
		}
		code := codeOfText(t, ex.code)
		last := code[len(code)-1]
		for _, o := range []impl.Op{bareOp("tick"), nameOp("cut", "a"), numberOp("push", 1), numberOp("go", int64(len(code)))} {
			code[len(code)-1] = o
			checkHeights(t, code, nil)
			checkHeights(t, append(slices.Clone(code), last), plainHeights(append(slices.Clone(code), last)))
		}
	}
}

func TestWhereGoLeads(t *testing.T) {
	for _, length := range []int64{2, 3, 10, 299, 300} {
		for at := int64(0); at < length; at += max(1, length/7) {
			for _, target := range []int64{0, 1, at - 1, at, at + 1, length - 2, length - 1, length, length + 1, 299, 300} {
				if target < 0 || target > 300 {
					continue
				}
				code := append(slices.Repeat([]impl.Op{bareOp("tick")}, int(length)-1), bareOp("end"))
				code[at] = numberOp("go", target)
				want := slices.Repeat([]int64{-1}, int(length))
				for i := range length {
					if i <= at || i >= target {
						want[i] = 0
					}
				}
				// If it leads back, what is behind it is not reachable.
				for i := at + 1; i < length && target <= at; i++ {
					want[i] = -1
				}
				if target >= length {
					want = nil
				}
				checkQuickHeights(t, code, want)
			}
		}
	}
}

func TestWhereUnlessLeads(t *testing.T) {
	for _, length := range []int64{3, 4, 10, 299, 300} {
		for at := int64(1); at < length-1; at += max(1, length/7) {
			for _, target := range []int64{0, 1, at - 1, at, at + 1, length - 2, length - 1, length, length + 1, 299, 300} {
				if target < 0 || target > 300 {
					continue
				}
				code := append(slices.Repeat([]impl.Op{bareOp("tick")}, int(length)-1), bareOp("end"))
				code[at-1], code[at] = nameOp("load", "a"), numberOp("unless", target)
				want := make([]int64, length)
				want[at] = 1
				// At its own index there would be 1 and 0 values.
				if target >= length || target == at {
					want = nil
				}
				checkQuickHeights(t, code, want)
			}
		}
	}
}

func TestJumpsToTheirOwnIndex(t *testing.T) {
	checkHeightExamples(t, []heightExample{
		{"go 0", "0"},
		{"tick, go 1", "0 0"},
		{"push 1, push 2, go 2", "0 1 2"},
		{"go 1, go 1, end", "0 0 -1"},
		{"push 1, unless 3, go 2, go 3", "0 1 0 0"},
		{"unless 0", ""},
		{"unless 0, end", ""},
		{"push 1, unless 1, end", ""},
		{"push 1, push 2, unless 2, end", ""},
		{"end, unless 1", "0 -1"},
	})
}

func TestCodesOfOneInstruction(t *testing.T) {
	for _, o := range someOps() {
		text := plainShowOp(o)
		if slices.Contains([]string{"stop", "end", "go 0"}, text) {
			checkHeights(t, []impl.Op{o}, []int64{0})
		} else {
			checkHeights(t, []impl.Op{o}, nil)
		}
	}
}

func TestCodesOfMaxCode(t *testing.T) {
	for _, ex := range []heightExample{{"tick", "0"}, {"cut a", "0"}, {"push 1, set a", "0 1"}, {"push 1, push 2, do 1, set a", "0 1 2 1"}, {"stop", "0"}, {"go 0", "0"}, {"end", "0"}} {
		part := codeOfText(t, ex.code)
		for _, length := range []int{298, 299, 300, 301, 302, 303, 304, 320} {
			code := slices.Repeat(part, length)[:length-1]
			code = append(code, bareOp("end"))
			want := plainHeights(code)
			if (len(want) > 0) != (length <= 300) {
				t.Errorf("%d instructions with %q are checked: %v", length, ex.code, len(want) > 0)
			}
			checkHeights(t, code, want)
		}
	}
	ticks := slices.Repeat([]impl.Op{bareOp("tick")}, 300)
	checkHeights(t, ticks, nil)
	checkHeights(t, append(ticks[:299:299], bareOp("end")), make([]int64, 300))
	checkHeights(t, append(ticks[:299:299], numberOp("go", 0)), make([]int64, 300))
	checkHeights(t, append(ticks[:299:299], numberOp("go", 299)), make([]int64, 300))
	checkHeights(t, append(ticks[:299:299], numberOp("go", 300)), nil)
	checkHeights(t, append([]impl.Op{numberOp("go", 299)}, append(ticks[:298:298], bareOp("stop"))...), upTo(1, append(slices.Repeat([]int64{-1}, 298), 0)...))
	// The instructions behind the first one are not reachable, but they are too many.
	checkHeights(t, append([]impl.Op{bareOp("end")}, ticks[:299]...), upTo(1, slices.Repeat([]int64{-1}, 299)...))
	checkHeights(t, append([]impl.Op{bareOp("end")}, ticks...), nil)
	checkHeights(t, append([]impl.Op{numberOp("go", 0)}, ticks...), nil)
}

// notOps are what OpOk rejects.
func notOps() []impl.Op {
	ops := []impl.Op{{}, {Number: 1}, {Name: "a"}, {Kind: 1, Number: 1, Name: "a"}, {Kind: 3}, {Kind: 5, Name: "A"}, {Kind: 6, Name: "abcdefghi"}, {Kind: 5, Number: 1, Name: "a"}, {Kind: 10, Number: 1}, {Kind: 11, Name: "a"}, {Kind: 9, Number: -1}}
	for _, kind := range notKinds() {
		ops = append(ops, impl.Op{Kind: kind})
	}
	for head, r := range opRanges {
		ops = append(ops, numberOp(head, r.least-1), numberOp(head, r.most+1), numberOp(head, r.least-1<<32), numberOp(head, r.most+1<<32))
	}
	return ops
}

func TestHeightsOfWhatIsNoCode(t *testing.T) {
	for _, o := range notOps() {
		if impl.OpOk(o) {
			t.Fatalf("%+v is an instruction", o)
		}
		checkHeights(t, []impl.Op{o}, nil)
		for _, text := range []string{"end", "push 1, push 2, do 1, set a, end", "go 2, tick, end, tick", "end, cut a, cut b", "load a, unless 4, cut b, stop, end"} {
			code := codeOfText(t, text)
			for i := range len(code) + 1 {
				checkHeights(t, slices.Insert(slices.Clone(code), i, o), nil)
				if i < len(code) {
					other := slices.Clone(code)
					other[i] = o
					checkHeights(t, other, nil)
				}
			}
		}
	}
	end := bareOp("end")
	long := slices.Repeat([]impl.Op{end}, 300)
	for _, i := range []int{0, 1, 150, 298, 299} {
		other := slices.Clone(long)
		other[i] = impl.Op{Kind: 12}
		checkHeights(t, other, nil)
	}
	checkHeights(t, long, upTo(1, slices.Repeat([]int64{-1}, 299)...))
}

func TestHeightsOfLongLists(t *testing.T) {
	for _, text := range []string{"end", "stop", "tick", "go 0", "go 300", "push 1", "do 1", "set a", "unless 0", "push 1, set a", "push 1, unless 0", "load a, cut a"} {
		part := codeOfText(t, text)
		for _, count := range []int{301, 1000, 100000} {
			checkQuickHeights(t, slices.Repeat(part, count), nil)
		}
	}
	for _, count := range []int{301, 1000, 1000000} {
		checkQuickHeights(t, make([]impl.Op, count), nil)
		checkQuickHeights(t, append([]impl.Op{bareOp("end")}, make([]impl.Op, count)...), nil)
	}
	checkQuickHeights(t, []impl.Op{nameOp("load", strings.Repeat("a", 1000000)), bareOp("end")}, nil)
}

// What an instruction pushes, loads, computes or names does not count.
func TestHeightsDoNotDependOnOperands(t *testing.T) {
	ops := someOps()
	source := rand.New(rand.NewSource(121))
	for _, ex := range slices.Concat(straightExamples(), jumpExamples()) {
		code := codeOfText(t, ex.code)
		heights := plainHeights(code)
		for range 100 {
			other := slices.Clone(code)
			for i, o := range code {
				for o.Kind != impl.OcGo && o.Kind != impl.OcUnless {
					other[i] = ops[source.Intn(len(ops))]
					if other[i].Kind == o.Kind || other[i].Kind <= 3 && o.Kind <= 3 {
						break
					}
				}
			}
			checkQuickHeights(t, other, heights)
		}
	}
}

// Each code of up to 4 of these instructions is checked.
func TestHeightsOfAllShortCodes(t *testing.T) {
	texts := []string{"push 1", "do 1", "set a", "cut a", "stop", "end"}
	for target := range 5 {
		texts = append(texts, fmt.Sprint("go ", target), fmt.Sprint("unless ", target))
	}
	ops := opsOfTexts(t, texts)
	codes, counts := [][]impl.Op{nil}, map[bool]int{}
	for range 4 {
		var longer [][]impl.Op
		for _, code := range codes {
			for _, o := range ops {
				longer = append(longer, append(slices.Clone(code), o))
			}
		}
		codes = longer
		for _, code := range codes {
			counts[checkPlainHeights(t, code)]++
		}
	}
	if counts[true] < 10000 || counts[false] < 10000 {
		t.Errorf("checked and others: %v", counts)
	}
}

// anyStraight returns an instruction that can be executed with so many values, and how many there are behind it. Of the
// instructions that leave more values, it returns up to that many among ten.
func anyStraight(source *rand.Rand, height int64, more int) (impl.Op, int64) {
	if height < 12 && source.Intn(10) < more {
		return []impl.Op{numberOp("push", source.Int63n(9)), numberOp("given", source.Int63n(3)), nameOp("load", anyName(source))}[source.Intn(3)], height + 1
	}
	switch form := source.Intn(5); {
	case form == 0 && height >= 2:
		return numberOp("do", 1+source.Int63n(7)), height - 1
	case form == 1 && height >= 1:
		return nameOp("set", anyName(source)), height - 1
	case form <= 2 && height >= 1:
		return numberOp("unless", 0), height - 1
	case form == 3:
		return nameOp("cut", anyName(source)), height
	}
	return bareOp("tick"), height
}

// anyChecked draws the heights together with the instructions, and then jumps that fit them. It returns the heights that
// there are if the instruction is reachable.
func anyChecked(source *rand.Rand, length int) ([]impl.Op, []int64) {
	code, heights := make([]impl.Op, length), make([]int64, length+1)
	more := 1 + source.Intn(9)
	for i := range code {
		code[i], heights[i+1] = anyStraight(source, heights[i], more)
		if i == length-1 || source.Intn(6) == 0 {
			code[i] = []impl.Op{bareOp("stop"), bareOp("end"), numberOp("go", 0), numberOp("go", 0), numberOp("go", 0)}[source.Intn(5)]
			heights[i+1] = heights[source.Intn(i+1)]
		}
	}
	heights = heights[:length]
	for i, o := range code {
		height := heights[i]
		if o.Kind == impl.OcUnless {
			height--
		}
		if o.Kind == impl.OcUnless || o.Kind == impl.OcGo {
			code[i].Number = anyAt(source, heights, height)
		}
	}
	return code, heights
}

// anyAt returns the index of one of the places where there is this height.
func anyAt(source *rand.Rand, heights []int64, height int64) int64 {
	var found []int64
	for i, h := range heights {
		if h == height {
			found = append(found, int64(i))
		}
	}
	return found[source.Intn(len(found))]
}

func TestHeightsOfAnyCheckedCodes(t *testing.T) {
	source := rand.New(rand.NewSource(122))
	counts := map[string]int{}
	for range 5000 {
		code, heights := anyChecked(source, 1+source.Intn(300))
		got := impl.HeightsOf(code)
		if len(got) != len(code) {
			t.Fatalf("HeightsOf(%s) = %v", shownCode(code), got)
		}
		for i, height := range got {
			if height != heights[i] && height != -1 {
				t.Errorf("HeightsOf(%s) = %v, at %d it should be %d", shownCode(code), got, i, heights[i])
			}
			if o := code[i]; height != -1 && (o.Kind == impl.OcGo || o.Kind == impl.OcUnless) {
				counts[fmt.Sprint(plainHead(o.Kind), " back: ", o.Number <= int64(i))]++
			}
		}
		checkPlainHeights(t, code)
		counts[fmt.Sprint("reachable: ", !slices.Contains(got, -1))]++
		counts[fmt.Sprint("highest: ", impl.HighestOf(code))]++
	}
	for _, what := range []string{"go back: true", "go back: false", "unless back: true", "unless back: false", "reachable: true", "reachable: false", "highest: 1", "highest: 5", "highest: 11", "highest: 12"} {
		if counts[what] < 50 {
			t.Errorf("only %d codes with %q", counts[what], what)
		}
	}
}

func TestHeightsOfCodesThatAreChanged(t *testing.T) {
	source := rand.New(rand.NewSource(123))
	counts := map[bool]int{}
	for range 10000 {
		code, _ := anyChecked(source, 1+source.Intn(30))
		at, o := source.Intn(len(code)), anyOp(source)
		if o.Kind == impl.OcGo || o.Kind == impl.OcUnless {
			o.Number = source.Int63n(int64(len(code)) + 2)
		}
		switch source.Intn(4) {
		case 0:
			code = slices.Insert(code, at, o)
		case 1:
			code = slices.Delete(code, at, at+1)
		default:
			code[at] = o
		}
		counts[checkPlainHeights(t, code)]++
	}
	if counts[true] < 1000 || counts[false] < 1000 {
		t.Errorf("checked and others: %v", counts)
	}
}

func TestHeightsOfAnyCodes(t *testing.T) {
	source := rand.New(rand.NewSource(124))
	counts := map[bool]int{}
	for range 50000 {
		code := make([]impl.Op, 1+source.Intn(7))
		for i := range code {
			code[i] = anyOp(source)
			if code[i].Kind == impl.OcGo || code[i].Kind == impl.OcUnless {
				code[i].Number = source.Int63n(int64(len(code)) + 1)
			}
		}
		counts[checkPlainHeights(t, code)]++
	}
	if counts[true] < 5000 || counts[false] < 5000 {
		t.Errorf("checked and others: %v", counts)
	}
}

// Behind instructions that leave nothing, a code has the same heights as alone.
func TestHeightsOfCodesThatAreMoved(t *testing.T) {
	source := rand.New(rand.NewSource(125))
	for range 1000 {
		code, _ := anyChecked(source, 1+source.Intn(100))
		by := source.Int63n(100)
		want := append(make([]int64, by), impl.HeightsOf(code)...)
		checkQuickHeights(t, append(slices.Repeat([]impl.Op{nameOp("cut", "a")}, int(by)), moved(code, by)...), want)
	}
}

// On each way through a checked code, there are as many values as the heights say.
func TestHeightsOnTheWay(t *testing.T) {
	source := rand.New(rand.NewSource(126))
	for range 500 {
		code, _ := anyChecked(source, 1+source.Intn(100))
		heights, texts := impl.HeightsOf(code), textsOfOps(code)
		p := place{}
		for range 500 {
			if p.at >= int64(len(code)) || heights[p.at] != p.height {
				t.Fatalf("HeightsOf(%s) = %v, but a way leads to %+v", shownCode(code), heights, p)
			}
			next, enough := plainNext(texts[p.at], p)
			if !enough {
				t.Fatalf("%s lacks a value at %+v", shownCode(code), p)
			}
			if len(next) == 0 {
				break
			}
			p = next[source.Intn(len(next))]
		}
	}
}

// outline is the heights of the code of statements; goes is whether execution goes on behind them.
type outline struct {
	heights []int64
	goes    bool
}

func (o *outline) add(height int64) {
	if !o.goes {
		height = -1
	}
	o.heights = append(o.heights, height)
}

func (o *outline) sum(e tree, height int64) {
	if len(e.parts) > 0 {
		o.sum(e.parts[0], height)
		o.sum(e.parts[1], height+1)
		height += 2
	}
	o.add(height)
}

func (o *outline) all(steps []step) {
	for _, s := range steps {
		o.one(s)
	}
}

func (o *outline) one(s step) {
	if s.head == "cut" || s.head == "stop" || s.head == "while" {
		o.add(0)
	}
	if s.head == "stop" {
		o.goes = false
	}
	// What takes the value of the expression.
	for _, e := range s.sums {
		o.sum(e, 0)
		o.add(1)
	}
	before := o.goes
	goes := s.head == "while" && before
	for i, block := range s.blocks {
		o.goes = before
		o.all(block)
		if i == 0 {
			o.add(0)
		}
		goes = goes || o.goes
	}
	if len(s.blocks) > 0 {
		o.goes = goes
	}
}

func plainOutline(steps []step) outline {
	o := outline{goes: true}
	o.all(steps)
	o.add(0)
	return o
}

// sumsOf returns the expressions of the statements and of those in their blocks.
func sumsOf(steps []step) []tree {
	var sums []tree
	for _, s := range steps {
		sums = append(sums, s.sums...)
		for _, block := range s.blocks {
			sums = append(sums, sumsOf(block)...)
		}
	}
	return sums
}

// need returns how many values there must be on the stack at once if the first operand is computed before the second one.
func (e tree) need() int64 {
	if len(e.parts) == 0 {
		return 1
	}
	return max(e.parts[0].need(), 1+e.parts[1].need())
}

// checkRecipeHeights returns the greatest one of them.
func checkRecipeHeights(t *testing.T, l []string) int64 {
	t.Helper()
	steps, is := plainRecipe(l)
	if !is {
		t.Fatalf("%q is no recipe", l)
	}
	want := plainOutline(steps)
	code := impl.CodeOf(l)
	checkQuickHeights(t, code, want.heights)
	if end := want.heights[len(code)-1]; want.goes != (end == 0) {
		t.Errorf("%q goes on: %v, and its end has the height %d", l, want.goes, end)
	}
	depth, need := int64(0), int64(0)
	for _, e := range sumsOf(steps) {
		depth, need = max(depth, impl.DepthOf(e.tokens(), 0)), max(need, e.need())
	}
	highest := impl.HighestOf(code)
	if highest > need || highest > depth || !slices.Contains(want.heights, -1) && highest != need {
		t.Errorf("%q has the highest stack %d, with expressions of the depth %d that need %d", l, highest, depth, need)
	}
	return highest
}

func TestHeightsOfRecipes(t *testing.T) {
	for _, ex := range []heightExample{
		{"", "0"},
		{"set a 1", "0 1 0"},
		{"set a @0", "0 1 0"},
		{"set a b", "0 1 0"},
		{"set a + 1 2", "0 1 2 1 0"},
		{"set a + + 1 2 3", "0 1 2 1 2 1 0"},
		{"set a + 1 + 2 3", "0 1 2 3 2 1 0"},
		{"set a - * 1 2 / 3 4", "0 1 2 1 2 3 2 1 0"},
		{"cut a", "0 0"},
		{"stop", "0 -1"},
		{"stop stop", "0 -1 -1"},
		{"cut a stop cut b", "0 0 -1 -1"},
		{"set a 1 stop set b + 1 2", "0 1 0 -1 -1 -1 -1 -1"},
		{"if < a 1 [ ] [ ]", "0 1 2 1 0 0"},
		{"if < a 1 [ cut b ] [ cut c ]", "0 1 2 1 0 0 0 0"},
		{"if < a 1 [ set b 1 ] [ set c + 1 2 ]", "0 1 2 1 0 1 0 0 1 2 1 0"},
		{"if < a 1 [ stop ] [ ]", "0 1 2 1 0 -1 0"},
		{"if < a 1 [ ] [ stop ]", "0 1 2 1 0 0 0"},
		{"if < a 1 [ stop ] [ stop ]", "0 1 2 1 0 -1 0 -1"},
		{"if < a 1 [ stop ] [ stop ] cut b", "0 1 2 1 0 -1 0 -1 -1"},
		{"while < a 1 [ ]", "0 0 1 2 1 0 0"},
		{"while < a 1 [ cut b ]", "0 0 1 2 1 0 0 0"},
		{"while < a 1 [ stop ]", "0 0 1 2 1 0 -1 0"},
		{"while & < a 1 = b c [ set a + a 1 ]", "0 0 1 2 1 2 3 2 1 0 1 2 1 0 0"},
		{"while < a 1 [ if = b c [ stop ] [ stop ] ] cut d", "0 0 1 2 1 0 1 2 1 0 -1 0 -1 0 0"},
		{"if < a 1 [ while = b c [ set d e ] ] [ ]", "0 1 2 1 0 0 1 2 1 0 1 0 0 0"},
		{"while < a 1 [ while = b c [ stop ] cut d ] stop", "0 0 1 2 1 0 0 1 2 1 0 -1 0 0 0 -1"},
		{"stop while < a 1 [ ]", "0 -1 -1 -1 -1 -1 -1 -1"},
	} {
		l := plainTokens(ex.code)
		checkHeightExamples(t, []heightExample{{strings.Join(plainCode(l), ", "), ex.heights}})
		checkRecipeHeights(t, l)
	}
	for _, ex := range someRecipes() {
		checkRecipeHeights(t, plainTokens(ex.text))
	}
	for _, ex := range deedExamples() {
		checkRecipeHeights(t, plainTokens(ex.text))
	}
}

func TestHeightsOfStatementsInOneAnother(t *testing.T) {
	for count := 1; count <= 5; count++ {
		for _, kinds := range kindsOfWrappers(count) {
			for _, inner := range []string{"", "stop", "cut a", "set a + 1 + 1 1", "set a 1 stop cut a"} {
				l := plainTokens(wrappedText(inner, kinds))
				if _, is := plainRecipe(l); is {
					checkRecipeHeights(t, l)
				}
			}
		}
	}
}

// The second operands make the stack high.
func TestTheStackIsAsHighAsDeepExpressionsNeed(t *testing.T) {
	for depth := 1; depth <= 5; depth++ {
		one, count := []string{"1"}, depth-1
		for _, example := range []struct {
			sum  []string
			want int64
		}{
			{deepOnTheRight("+", count, one), int64(depth)},
			{deepOnTheLeft("+", count, one), min(int64(depth), 2)},
			{deepOnBothSides("+", count, one), int64(depth)},
		} {
			for _, form := range []string{"set a %s", "if < 1 %s [ ] [ ]", "while < %s 1 [ stop ]", "cut a set a %s stop"} {
				l := plainTokens(fmt.Sprintf(form, strings.Join(example.sum, " ")))
				want := example.want
				if strings.Contains(form, "< 1 %s") {
					want++
				}
				if strings.Contains(form, "< %s 1") {
					want = max(want, 2)
				}
				if _, is := plainRecipe(l); !is {
					continue
				}
				if got := checkRecipeHeights(t, l); got != want {
					t.Errorf("%q has the highest stack %d, want %d", l, got, want)
				}
			}
		}
	}
	for _, text := range []string{"", "cut a", "stop", "cut a cut b stop", "stop set a + 1 + 2 3"} {
		if got := checkRecipeHeights(t, plainTokens(text)); got != 0 {
			t.Errorf("%q has the highest stack %d", text, got)
		}
	}
}

func TestCodeOfAnyRecipeIsChecked(t *testing.T) {
	source := rand.New(rand.NewSource(127))
	counts := map[int64]int{}
	for range 5000 {
		counts[checkRecipeHeights(t, tokensOf(anyRecipe(source, 120)))]++
	}
	for highest := range int64(6) {
		if counts[highest] < 20 {
			t.Errorf("only %d recipes have the highest stack %d", counts[highest], highest)
		}
	}
	for range 2000 {
		checkRecipeHeights(t, anyUseful(source, 120))
	}
}

func TestCodeOfARecipeOfMaxSignsIsChecked(t *testing.T) {
	for _, count := range []int{118, 119, 120} {
		for _, l := range listsOf(t, count) {
			checkRecipeHeights(t, l)
		}
	}
}

func TestCodeOfWhatIsNoRecipeIsNotChecked(t *testing.T) {
	for _, text := range notRecipes() {
		checkHeights(t, impl.CodeOf(plainTokens(text)), nil)
	}
}

func TestHeightsAreNewMemoryEachTime(t *testing.T) {
	for _, ex := range slices.Concat(straightExamples(), jumpExamples()) {
		code := codeOfText(t, ex.code)
		want := plainHeights(code)
		first := impl.HeightsOf(code)
		second := impl.HeightsOf(code)
		for i := range second[:cap(second)] {
			second[:cap(second)][i] = 99
		}
		if !slices.Equal(first, want) {
			t.Errorf("HeightsOf(%q) was changed to %v with another one", ex.code, first)
		}
		checkHeights(t, code, want)
		overwriteOps(code)
		if !slices.Equal(first, want) {
			t.Errorf("HeightsOf(%q) was changed to %v with its code", ex.code, first)
		}
	}
}
