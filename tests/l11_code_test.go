package tests

import (
	"fmt"
	"math"
	"math/rand"
	"regexp"
	"runtime/debug"
	"slices"
	"strconv"
	"strings"
	"testing"

	"loop.example/g00526/impl"
)

// The place of a word in this text, plus 1, is the kind of the instruction whose text begins with it.
const opWords = "push given load do set cut go unless tick stop end"

// opRange is the numbers that an instruction takes, or none, in which case its Number is not used.
type opRange struct{ least, most int64 }

var opRanges = map[string]opRange{
	"push": {leastWord, greatestWord}, "given": {0, 2}, "do": {1, 7}, "go": {0, 300}, "unless": {0, 300},
}

var (
	numberForm = regexp.MustCompile(`\A(push|given|do|go|unless) (0|-?[1-9][0-9]{0,9})\z`)
	nameForm   = regexp.MustCompile(`\A(load|set|cut) ([a-z]{1,8})\z`)
	bareForm   = regexp.MustCompile(`\A(tick|stop|end)\z`)
)

func plainKind(head string) int64 {
	return int64(slices.Index(strings.Fields(opWords), head)) + 1
}

// plainHead returns the empty text if there is no such kind.
func plainHead(kind int64) string {
	if kind < 1 || kind > 11 {
		return ""
	}
	return strings.Fields(opWords)[kind-1]
}

func plainReadOp(s string) (impl.Op, bool) {
	if parts := numberForm.FindStringSubmatch(s); parts != nil {
		n, _ := strconv.ParseInt(parts[2], 10, 64)
		r := opRanges[parts[1]]
		if n < r.least || n > r.most {
			return impl.Op{}, false
		}
		return numberOp(parts[1], n), true
	}
	if parts := nameForm.FindStringSubmatch(s); parts != nil {
		return nameOp(parts[1], parts[2]), true
	}
	return bareOp(s), bareForm.MatchString(s)
}

func plainShowOp(o impl.Op) string {
	head := plainHead(o.Kind)
	r, numbered := opRanges[head]
	switch {
	case numbered && o.Name == "" && r.least <= o.Number && o.Number <= r.most:
		return fmt.Sprint(head, " ", o.Number)
	case slices.Contains([]string{"load", "set", "cut"}, head) && o.Number == 0 && plainName(o.Name):
		return head + " " + o.Name
	case slices.Contains([]string{"tick", "stop", "end"}, head) && o.Number == 0 && o.Name == "":
		return head
	}
	return ""
}

func numberOp(head string, n int64) impl.Op {
	return impl.Op{Kind: plainKind(head), Number: n}
}

func nameOp(head, name string) impl.Op {
	return impl.Op{Kind: plainKind(head), Name: name}
}

// bareOp returns the zero Op for any other word.
func bareOp(head string) impl.Op {
	if !bareForm.MatchString(head) {
		return impl.Op{}
	}
	return impl.Op{Kind: plainKind(head)}
}

// opExample is an instruction and its text.
type opExample struct {
	op   impl.Op
	text string
}

func opExamples() []opExample {
	return []opExample{
		{impl.Op{Kind: 1, Number: 0}, "push 0"},
		{impl.Op{Kind: 1, Number: 1}, "push 1"},
		{impl.Op{Kind: 1, Number: -1}, "push -1"},
		{impl.Op{Kind: 1, Number: 10}, "push 10"},
		{impl.Op{Kind: 1, Number: 300}, "push 300"},
		{impl.Op{Kind: 1, Number: 301}, "push 301"},
		{impl.Op{Kind: 1, Number: 2147483647}, "push 2147483647"},
		{impl.Op{Kind: 1, Number: -2147483648}, "push -2147483648"},
		{impl.Op{Kind: 2, Number: 0}, "given 0"},
		{impl.Op{Kind: 2, Number: 1}, "given 1"},
		{impl.Op{Kind: 2, Number: 2}, "given 2"},
		{impl.Op{Kind: 3, Name: "a"}, "load a"},
		{impl.Op{Kind: 3, Name: "hay"}, "load hay"},
		{impl.Op{Kind: 3, Name: "zzzzzzzz"}, "load zzzzzzzz"},
		{impl.Op{Kind: 4, Number: 1}, "do 1"},
		{impl.Op{Kind: 4, Number: 4}, "do 4"},
		{impl.Op{Kind: 4, Number: 7}, "do 7"},
		{impl.Op{Kind: 5, Name: "b"}, "set b"},
		{impl.Op{Kind: 5, Name: "oats"}, "set oats"},
		{impl.Op{Kind: 5, Name: "abcdefgh"}, "set abcdefgh"},
		{impl.Op{Kind: 6, Name: "c"}, "cut c"},
		{impl.Op{Kind: 6, Name: "cut"}, "cut cut"},
		{impl.Op{Kind: 6, Name: "ijklmnop"}, "cut ijklmnop"},
		{impl.Op{Kind: 7, Number: 0}, "go 0"},
		{impl.Op{Kind: 7, Number: 17}, "go 17"},
		{impl.Op{Kind: 7, Number: 300}, "go 300"},
		{impl.Op{Kind: 8, Number: 0}, "unless 0"},
		{impl.Op{Kind: 8, Number: 9}, "unless 9"},
		{impl.Op{Kind: 8, Number: 300}, "unless 300"},
		{impl.Op{Kind: 9}, "tick"},
		{impl.Op{Kind: 10}, "stop"},
		{impl.Op{Kind: 11}, "end"},
	}
}

func opNumbers() []int64 {
	numbers := slices.Concat(edgeWords(), notWords(), []int64{298, 299, 300, 301, 302, 4294967296 + 300, 1<<32 + 2, 256, 257, 258, 263})
	for n := int64(-3); n <= 13; n++ {
		numbers = append(numbers, n)
	}
	return numbers
}

// notKinds has also numbers that would become kinds if they were cut to fewer bits.
func notKinds() []int64 {
	kinds := []int64{0, 12, 13, 100, -1, -2, -7, -11, -12, math.MinInt64, math.MinInt64 + 1, math.MaxInt64}
	for kind := int64(1); kind <= 11; kind++ {
		kinds = append(kinds, -kind, kind+16, kind+32, kind+256, kind+1<<16, kind+1<<32, kind-1<<32, math.MinInt64+kind)
	}
	return kinds
}

// someOps are instructions that are valid.
func someOps() []impl.Op {
	var ops []impl.Op
	for _, ex := range opExamples() {
		ops = append(ops, ex.op)
	}
	for head, r := range opRanges {
		for _, n := range opNumbers() {
			if r.least <= n && n <= r.most {
				ops = append(ops, numberOp(head, n))
			}
		}
	}
	for _, head := range []string{"load", "set", "cut"} {
		for _, name := range slices.Concat(someNames(), heads(), strings.Fields(opWords)) {
			ops = append(ops, nameOp(head, name))
		}
	}
	return ops
}

// checkOp checks OpOk and ShowOp of an instruction that has this text, or that is not valid if the text is empty.
func checkOp(t *testing.T, o impl.Op, text string) {
	t.Helper()
	if got := impl.OpOk(o); got != (text != "") {
		t.Errorf("OpOk(%+v) = %v", o, got)
	}
	if got := impl.ShowOp(o); got != text {
		t.Errorf("ShowOp(%+v) = %q, want %q", o, got, text)
	}
}

func checkReadOp(t *testing.T, s string, want impl.Op, wantOk bool) {
	t.Helper()
	got, is := impl.ReadOp(s)
	if got != want || is != wantOk {
		t.Errorf("ReadOp(%q) = %+v, %v, want %+v, %v", shown(s), got, is, want, wantOk)
	}
}

func checkPlainReadOp(t *testing.T, s string) bool {
	t.Helper()
	want, is := plainReadOp(s)
	checkReadOp(t, s, want, is)
	return is
}

// checkNoOps takes texts that no instruction has.
func checkNoOps(t *testing.T, texts ...string) {
	t.Helper()
	for _, s := range texts {
		checkReadOp(t, s, impl.Op{}, false)
	}
}

func TestOpKinds(t *testing.T) {
	kinds := []int64{
		impl.OcPush, impl.OcGiven, impl.OcLoad, impl.OcDo, impl.OcSet, impl.OcCut, impl.OcGo, impl.OcUnless, impl.OcTick, impl.OcStop, impl.OcEnd,
	}
	for i, kind := range kinds {
		if kind != int64(i)+1 {
			t.Errorf("kind %d is %d", i+1, kind)
		}
	}
	if impl.MaxCode != 300 {
		t.Error(impl.MaxCode)
	}
}

func TestOps(t *testing.T) {
	for _, ex := range opExamples() {
		checkOp(t, ex.op, ex.text)
		checkReadOp(t, ex.text, ex.op, true)
	}
}

func TestOpsOfEachNumber(t *testing.T) {
	for kind := int64(1); kind <= 11; kind++ {
		for _, n := range opNumbers() {
			o := impl.Op{Kind: kind, Number: n}
			checkOp(t, o, plainShowOp(o))
			checkPlainReadOp(t, fmt.Sprint(plainHead(kind), " ", n))
		}
	}
	for n := int64(-10); n <= 310; n++ {
		for head, r := range opRanges {
			text := fmt.Sprint(head, " ", n)
			if n < r.least || n > r.most {
				checkOp(t, numberOp(head, n), "")
				checkNoOps(t, text)
			} else {
				checkOp(t, numberOp(head, n), text)
				checkReadOp(t, text, numberOp(head, n), true)
			}
		}
	}
}

func TestOpsAtTheEndsOfTheirNumbers(t *testing.T) {
	for head, r := range opRanges {
		for _, n := range []int64{r.least, r.least + 1, r.most - 1, r.most} {
			checkOp(t, numberOp(head, n), fmt.Sprint(head, " ", n))
			checkReadOp(t, fmt.Sprint(head, " ", n), numberOp(head, n), true)
		}
		for _, n := range []int64{r.least - 1, r.least - 2, r.most + 1, r.most + 2, r.least - 1<<32, r.most + 1<<32, math.MinInt64, math.MaxInt64} {
			checkOp(t, numberOp(head, n), "")
			checkNoOps(t, fmt.Sprint(head, " ", n))
		}
	}
}

func TestOpsOfEachName(t *testing.T) {
	for _, head := range []string{"load", "set", "cut"} {
		for _, name := range slices.Concat(someNames(), heads(), strings.Fields(opWords)) {
			checkOp(t, nameOp(head, name), head+" "+name)
			checkReadOp(t, head+" "+name, nameOp(head, name), true)
		}
		for _, name := range slices.Concat(notNames(), []string{"1", "-1", "@0", "+", "[", "]"}) {
			checkOp(t, nameOp(head, name), "")
			checkNoOps(t, head+" "+name)
		}
		for length := range 20 {
			name := strings.Repeat("n", length)
			o := nameOp(head, name)
			checkOp(t, o, plainShowOp(o))
			if is := checkPlainReadOp(t, head+" "+name); is != (1 <= length && length <= 8) {
				t.Errorf("%q: %v", head+" "+name, is)
			}
		}
	}
}

func TestOpsWithAFieldThatIsNotUsed(t *testing.T) {
	for _, o := range someOps() {
		_, numbered := opRanges[plainHead(o.Kind)]
		for _, name := range slices.Concat(someNames(), notNames()) {
			if other := o; o.Name == "" && name != "" {
				other.Name = name
				checkOp(t, other, "")
			}
		}
		for _, n := range opNumbers() {
			if other := o; !numbered && n != 0 {
				other.Number = n
				checkOp(t, other, "")
			}
		}
	}
	for _, head := range []string{"tick", "stop", "end"} {
		checkOp(t, impl.Op{Kind: plainKind(head), Number: 1, Name: "a"}, "")
	}
	// A name instead of the number, or a number instead of the name.
	for kind := int64(1); kind <= 11; kind++ {
		checkOp(t, impl.Op{Kind: kind, Number: 1, Name: "a"}, "")
		checkOp(t, impl.Op{Kind: kind, Name: "1"}, "")
	}
}

func TestOpsThatLackTheirOperand(t *testing.T) {
	for kind := int64(1); kind <= 11; kind++ {
		o, head := impl.Op{Kind: kind}, plainHead(kind)
		checkOp(t, o, map[string]string{"push": "push 0", "given": "given 0", "go": "go 0", "unless": "unless 0", "tick": "tick", "stop": "stop", "end": "end"}[head])
		if bareForm.MatchString(head) {
			checkReadOp(t, head, o, true)
			checkNoOps(t, head+" ", head+" 0", head+" 1", head+" a", head+" "+head)
		} else {
			checkNoOps(t, head, head+" ", head+"  ")
		}
	}
}

func TestKindsOfNoOps(t *testing.T) {
	checkOp(t, impl.Op{}, "")
	for _, kind := range notKinds() {
		for _, n := range []int64{0, 1, 2, 300, -1} {
			checkOp(t, impl.Op{Kind: kind, Number: n}, "")
		}
		for _, name := range []string{"a", "hay", "zzzzzzzz", "?"} {
			checkOp(t, impl.Op{Kind: kind, Name: name}, "")
			checkOp(t, impl.Op{Kind: kind, Number: 1, Name: name}, "")
		}
		checkNoOps(t, fmt.Sprint(kind), fmt.Sprint(kind, " 0"), fmt.Sprint(kind, " a"))
	}
}

func TestReadOpOfOtherWords(t *testing.T) {
	checkNoOps(t, "", " ", "  ", "\n", "\x00", "0", "1", "a", "a 1", "1 a", "?", "what", "what 1", "what a", " 1", " a", " push 1", "bad", "ticks", "ti ck")
	operands := []string{"", " 0", " 1", " 2", " a", " hay"}
	for _, head := range strings.Fields(opWords) {
		others := []string{strings.ToUpper(head), strings.ToUpper(head[:1]) + head[1:], head[1:], head[:len(head)-1], head + "s", head + head, "x" + head, "oc" + head, "\ufeff" + head, head + "\x00"}
		for _, other := range others {
			for _, operand := range operands {
				checkNoOps(t, other+operand)
			}
		}
		for _, operand := range operands {
			checkPlainReadOp(t, head+operand)
			checkNoOps(t, head[:1]+" "+head[1:]+operand)
		}
	}
	for _, text := range []string{"if", "if 1", "while", "while 1", "given @0", "given @", "load @0", "push a", "do +", "do add", "go a", "unless a", "set 1", "set a 1", "cut 1", "cut a b", "tick 1", "stop a", "end 0", "+ 1 1", "do 1 1", "[ ]"} {
		checkNoOps(t, text)
	}
}

// Each text has the operand of another instruction, too.
func TestReadOpOfOperandsOfOtherOps(t *testing.T) {
	counts := map[bool]int{}
	for _, head := range strings.Fields(opWords) {
		for _, ex := range opExamples() {
			_, operand, _ := strings.Cut(ex.text, " ")
			counts[checkPlainReadOp(t, head+" "+operand)]++
			checkNoOps(t, ex.text+" "+operand, ex.text+" "+ex.text, ex.text+" "+head, ex.text+ex.text, operand+" "+ex.text, head+" "+ex.text+" 1")
		}
	}
	if counts[true] < 50 || counts[false] < 50 {
		t.Errorf("texts of instructions and others: %v", counts)
	}
}

func TestReadOpOfNumbers(t *testing.T) {
	bad := []string{
		"", "00", "01", "007", "0000000000", "00000000001", "-0", "-00", "-01", "+1", "+0", "+-1", "--1", "-", "+", "- 1", "1-", "1.0", "1.", ".1", "1e0", "1e3", "0x1", "0b1", "0o1", "1_0", "1,0",
		"12345678901", "-12345678901", "10000000000", "2147483648", "-2147483649", "4294967296", "4294967297", "4294967298", "9999999999", "-9999999999", "9223372036854775808",
		"18446744073709551616", "18446744073709551617", "99999999999999999999", "\u0661", "\uff11", "\u00b9", "1\u0661", "one", "a", "@1", "1a", "a1", "1\x00", "\x001", "1\n", "\n1", "1\t", "\t1",
		strings.Repeat("0", 1000), strings.Repeat("1", 1000), "-" + strings.Repeat("1", 1000), strings.Repeat("0", 1000) + "1",
	}
	for head, r := range opRanges {
		for _, number := range bad {
			checkNoOps(t, head+" "+number)
		}
		// A number that could be written shorter.
		for _, n := range []int64{r.least, r.least + 1, 1, 2, r.most} {
			digits := strings.TrimPrefix(fmt.Sprint(n), "-")
			for _, before := range []string{"0", "00", "+", "-0", "+0", "--", " ", "-+"} {
				checkNoOps(t, head+" "+before+digits)
			}
		}
	}
}

func TestReadOpOfSurplusBlanks(t *testing.T) {
	for _, ex := range opExamples() {
		checkNoOps(t, " "+ex.text, ex.text+" ", " "+ex.text+" ", "  "+ex.text, ex.text+"  ", strings.Replace(ex.text, " ", "  ", 1)+" ")
		if strings.Contains(ex.text, " ") {
			checkNoOps(t, strings.Replace(ex.text, " ", "  ", 1), strings.Replace(ex.text, " ", "   ", 1), strings.Replace(ex.text, " ", "", 1))
		}
		for i := range ex.text {
			checkNoOps(t, ex.text[:i]+" "+ex.text[i:])
		}
	}
}

func TestReadOpOfCharactersThatAreNotSeen(t *testing.T) {
	unseen := []string{"\t", "\n", "\r", "\r\n", "\v", "\f", "\x00", "\x01", "\x1f", "\x7f", "\u00a0", "\u200b", "\u2003", "\ufeff", "\xa0", "\x85"}
	for _, c := range unseen {
		for _, ex := range opExamples() {
			checkNoOps(t, strings.Replace(ex.text, " ", c, 1)+c, c)
			if strings.Contains(ex.text, " ") {
				checkNoOps(t, strings.Replace(ex.text, " ", c, 1))
			}
			for i := range len(ex.text) + 1 {
				checkNoOps(t, ex.text[:i]+c+ex.text[i:])
			}
		}
	}
}

// Of each text, one byte is removed, replaced or added.
func TestReadOpOfEveryByte(t *testing.T) {
	counts := map[bool]int{}
	for _, ex := range opExamples() {
		for i := range len(ex.text) + 1 {
			if i < len(ex.text) {
				counts[checkPlainReadOp(t, ex.text[:i]+ex.text[i+1:])]++
			}
			checkPlainReadOp(t, ex.text[:i])
			checkPlainReadOp(t, ex.text[i:])
			for b := range 256 {
				counts[checkPlainReadOp(t, ex.text[:i]+string([]byte{byte(b)})+ex.text[i:])]++
				if i < len(ex.text) {
					counts[checkPlainReadOp(t, ex.text[:i]+string([]byte{byte(b)})+ex.text[i+1:])]++
				}
			}
		}
	}
	if counts[true] < 1000 || counts[false] < 1000 {
		t.Errorf("texts of instructions and others: %v", counts)
	}
}

func anyOp(source *rand.Rand) impl.Op {
	head := strings.Fields(opWords)[source.Intn(11)]
	if bareForm.MatchString(head) {
		return bareOp(head)
	}
	r, numbered := opRanges[head]
	if !numbered {
		return nameOp(head, anyName(source))
	}
	return numberOp(head, r.least+source.Int63n(r.most-r.least+1))
}

func TestReadOpOfShowOpIsTheInstruction(t *testing.T) {
	source := rand.New(rand.NewSource(111))
	ops := someOps()
	for range 20000 {
		ops = append(ops, anyOp(source))
	}
	for _, o := range ops {
		text := impl.ShowOp(o)
		if got, is := impl.ReadOp(text); got != o || !is || text == "" {
			t.Errorf("ReadOp(%q) = %+v, %v, want %+v", text, got, is, o)
		}
		checkOp(t, o, plainShowOp(o))
	}
}

func TestShowOpOfWhatReadOpReturnsIsTheText(t *testing.T) {
	source := rand.New(rand.NewSource(112))
	words := slices.Concat(strings.Fields(opWords), someNames(), []string{"", "0", "1", "2", "3", "7", "8", "300", "301", "-1", "2147483647", "-2147483648", "2147483648", "01", "@0", "+"})
	counts := map[bool]int{}
	for range 50000 {
		text := words[source.Intn(11)]
		for range source.Intn(3) {
			text += " " + words[source.Intn(len(words))]
		}
		o, is := impl.ReadOp(text)
		counts[is]++
		if is && (impl.ShowOp(o) != text || !impl.OpOk(o)) {
			t.Errorf("ReadOp(%q) = %+v, which is shown as %q", text, o, impl.ShowOp(o))
		}
		checkPlainReadOp(t, text)
	}
	if counts[true] < 5000 || counts[false] < 5000 {
		t.Errorf("texts of instructions and others: %v", counts)
	}
}

func TestOpsAreShownWithDifferentTexts(t *testing.T) {
	shownAs := map[string]impl.Op{}
	for _, o := range someOps() {
		text := impl.ShowOp(o)
		if other, there := shownAs[text]; there && other != o {
			t.Errorf("%+v and %+v are both shown as %q", o, other, text)
		}
		shownAs[text] = o
	}
}

// Any fields, of which most are not valid.
func TestAnyOps(t *testing.T) {
	source := rand.New(rand.NewSource(113))
	names := slices.Concat([]string{"", "", "", ""}, someNames(), notNames())
	counts := map[bool]int{}
	for range 50000 {
		o := impl.Op{Kind: source.Int63n(13), Number: opNumbers()[source.Intn(len(opNumbers()))], Name: names[source.Intn(len(names))]}
		if source.Intn(2) == 0 {
			o.Number = 0
		}
		if source.Intn(2) == 0 {
			o.Name = ""
		}
		text := plainShowOp(o)
		counts[text != ""]++
		checkOp(t, o, text)
	}
	if counts[true] < 5000 || counts[false] < 5000 {
		t.Errorf("instructions and others: %v", counts)
	}
}

func TestReadOpOfLongTexts(t *testing.T) {
	for _, part := range []string{" ", "a", "0", "1", "-", "\x00", "\xff", "push", "push ", "push 1 ", "tick", "tick ", "load a ", "end\n"} {
		for _, count := range []int{100, 10000, 1000000} {
			long := strings.Repeat(part, count)
			checkNoOps(t, long, "push "+long, "load "+long, "go 1"+long, "tick"+long, "end "+long, long+" 1", long+"tick")
		}
	}
	for _, head := range strings.Fields(opWords) {
		for _, name := range []string{strings.Repeat("a", 1000000), strings.Repeat("1", 1000000), strings.Repeat(" ", 1000000)} {
			checkOp(t, nameOp(head, name), "")
			checkNoOps(t, head+" "+name)
		}
	}
}

// draft is a code in which labels stand for indices. A line that ends with a colon is the label of the next instruction.
type draft struct {
	lines  []string
	labels int
}

func (d *draft) add(lines ...string) { d.lines = append(d.lines, lines...) }

func (d *draft) label() string {
	d.labels++
	return fmt.Sprint("L", d.labels)
}

func (d *draft) sum(e tree) {
	if len(e.parts) > 0 {
		d.sum(e.parts[0])
		d.sum(e.parts[1])
		d.add(fmt.Sprint("do ", plainOp(e.token)))
		return
	}
	switch first := e.token[0]; {
	case first == '@':
		d.add("given " + e.token[1:])
	case first >= 'a':
		d.add("load " + e.token)
	default:
		d.add("push " + e.token)
	}
}

func (d *draft) all(steps []step) {
	for _, s := range steps {
		d.one(s)
	}
}

func (d *draft) one(s step) {
	first, second := d.label(), d.label()
	switch s.head {
	case "set":
		d.sum(s.sums[0])
		d.add("set " + s.name)
	case "cut":
		d.add("cut " + s.name)
	case "stop":
		d.add("stop")
	case "if":
		d.sum(s.sums[0])
		d.add("unless " + first)
		d.all(s.blocks[0])
		d.add("go "+second, first+":")
		d.all(s.blocks[1])
		d.add(second + ":")
	case "while":
		d.add(first+":", "tick")
		d.sum(s.sums[0])
		d.add("unless " + second)
		d.all(s.blocks[0])
		d.add("go "+first, second+":")
	}
}

// texts returns the texts of the instructions.
func (d *draft) texts() []string {
	var texts []string
	indices := map[string]int{}
	for _, line := range d.lines {
		if label, is := strings.CutSuffix(line, ":"); is {
			indices[label] = len(texts)
		} else {
			texts = append(texts, line)
		}
	}
	for i, text := range texts {
		head, label, _ := strings.Cut(text, " ")
		if index, is := indices[label]; is {
			texts[i] = fmt.Sprint(head, " ", index)
		}
	}
	return texts
}

// plainCode returns the texts of the instructions, none for a list that is no recipe.
func plainCode(l []string) []string {
	steps, is := plainRecipe(l)
	if !is {
		return nil
	}
	var d draft
	d.all(steps)
	return append(d.texts(), "end")
}

// opsOfTexts does not use ReadOp.
func opsOfTexts(t *testing.T, texts []string) []impl.Op {
	t.Helper()
	var ops []impl.Op
	for _, text := range texts {
		o, is := plainReadOp(text)
		if !is {
			t.Fatalf("%q is the text of no instruction", text)
		}
		ops = append(ops, o)
	}
	return ops
}

func textsOfOps(code []impl.Op) []string {
	var texts []string
	for _, o := range code {
		texts = append(texts, plainShowOp(o))
	}
	return texts
}

func checkCode(t *testing.T, l []string, want []string) {
	t.Helper()
	ops := opsOfTexts(t, want)
	for _, room := range behindTokens() {
		tokens, whole := roomyList(l, room)
		before := slices.Clone(whole)
		if got := impl.CodeOf(tokens); !slices.Equal(got, ops) {
			t.Errorf("CodeOf(%s) = %q, want %q", shownTokens(l), textsOfOps(got), want)
		}
		if !slices.Equal(whole, before) {
			t.Errorf("%s or its unused capacity was changed by CodeOf", shownTokens(l))
		}
	}
}

// checkQuickCode is checkCode with the plain one and without the unused capacity, for very many lists. It returns whether l
// is a recipe.
func checkQuickCode(t *testing.T, l []string) bool {
	t.Helper()
	want := plainCode(l)
	if got := impl.CodeOf(l); !slices.Equal(got, opsOfTexts(t, want)) {
		t.Errorf("CodeOf(%s) = %q, want %q", shownTokens(l), textsOfOps(got), want)
	}
	return len(want) > 0
}

// codeExample is the text of a recipe, and those of the instructions without the last one, separated by commas.
type codeExample struct{ text, code string }

func checkCodeExamples(t *testing.T, examples []codeExample) {
	t.Helper()
	for _, ex := range examples {
		want := []string{"end"}
		if ex.code != "" {
			want = append(strings.Split(ex.code, ", "), "end")
		}
		checkCode(t, plainTokens(ex.text), want)
		if plain := plainCode(plainTokens(ex.text)); !slices.Equal(plain, want) {
			t.Errorf("the plain code of %q is %q, not %q", ex.text, plain, want)
		}
	}
}

func TestCodeOfTheEmptyRecipe(t *testing.T) {
	checkCodeExamples(t, []codeExample{{"", ""}})
	for _, l := range [][]string{nil, {}} {
		if got := impl.CodeOf(l); len(got) != 1 || got[0] != (impl.Op{Kind: impl.OcEnd}) {
			t.Errorf("%+v", got)
		}
	}
}

func TestCodeOfSetAndCutAndStop(t *testing.T) {
	checkCodeExamples(t, []codeExample{
		{"set a 1", "push 1, set a"},
		{"set a 0", "push 0, set a"},
		{"set a -2147483648", "push -2147483648, set a"},
		{"set a 2147483647", "push 2147483647, set a"},
		{"set a 301", "push 301, set a"},
		{"set a @0", "given 0, set a"},
		{"set a @1", "given 1, set a"},
		{"set hay @2", "given 2, set hay"},
		{"set a b", "load b, set a"},
		{"set a a", "load a, set a"},
		{"set abcdefgh zzzzzzzz", "load zzzzzzzz, set abcdefgh"},
		{"set set set", "load set, set set"},
		{"set cut stop", "load stop, set cut"},
		{"set if while", "load while, set if"},
		{"cut a", "cut a"},
		{"cut cut", "cut cut"},
		{"cut stop", "cut stop"},
		{"cut abcdefgh", "cut abcdefgh"},
		{"stop", "stop"},
		{"stop stop", "stop, stop"},
		{"cut a cut a", "cut a, cut a"},
		{"set a 1 set b 2", "push 1, set a, push 2, set b"},
		{"set a b stop cut a", "load b, set a, stop, cut a"},
		{"cut b stop set a @1 cut c", "cut b, stop, given 1, set a, cut c"},
		{"set tick end cut end set end tick", "load end, set tick, cut end, load tick, set end"},
	})
}

func TestCodeOfExpressions(t *testing.T) {
	checkCodeExamples(t, []codeExample{
		{"set a + 1 2", "push 1, push 2, do 1, set a"},
		{"set a - b @1", "load b, given 1, do 2, set a"},
		{"set a * -3 @2", "push -3, given 2, do 3, set a"},
		{"set a / c b", "load c, load b, do 4, set a"},
		{"set a / 1 0", "push 1, push 0, do 4, set a"},
		{"set a - 1 1", "push 1, push 1, do 2, set a"},
		{"set a - - 1 2 3", "push 1, push 2, do 2, push 3, do 2, set a"},
		{"set a - 1 - 2 3", "push 1, push 2, push 3, do 2, do 2, set a"},
		{"set a + * 1 b / @0 c", "push 1, load b, do 3, given 0, load c, do 4, do 1, set a"},
		{"set a / - 1 + 2 3 * 4 5", "push 1, push 2, push 3, do 1, do 2, push 4, push 5, do 3, do 4, set a"},
		{"set a + - * / 1 2 3 4 5", "push 1, push 2, do 4, push 3, do 3, push 4, do 2, push 5, do 1, set a"},
		{"set a + 1 - 2 * 3 / 4 5", "push 1, push 2, push 3, push 4, push 5, do 4, do 3, do 2, do 1, set a"},
		{"set a + - 1 * 2 3 4", "push 1, push 2, push 3, do 3, do 2, push 4, do 1, set a"},
		{"set a + 1 * - 2 3 4", "push 1, push 2, push 3, do 2, push 4, do 3, do 1, set a"},
		{"while < a b [ ]", "tick, load a, load b, do 5, unless 6, go 0"},
		{"while = @0 7 [ ]", "tick, given 0, push 7, do 6, unless 6, go 0"},
		{"while & < 1 2 = 3 4 [ ]", "tick, push 1, push 2, do 5, push 3, push 4, do 6, do 7, unless 10, go 0"},
		{"while & & < 1 2 < 3 4 = 5 6 [ ]", "tick, push 1, push 2, do 5, push 3, push 4, do 5, do 7, push 5, push 6, do 6, do 7, unless 14, go 0"},
		{"while & < 1 2 & < 3 4 = 5 6 [ ]", "tick, push 1, push 2, do 5, push 3, push 4, do 5, push 5, push 6, do 6, do 7, do 7, unless 14, go 0"},
		{"while < + 1 2 * 3 4 [ ]", "tick, push 1, push 2, do 1, push 3, push 4, do 3, do 5, unless 10, go 0"},
		{"if = - a 1 b [ ] [ ]", "load a, push 1, do 2, load b, do 6, unless 7, go 7"},
	})
}

func TestCodeOfIf(t *testing.T) {
	checkCodeExamples(t, []codeExample{
		{"if < a 1 [ ] [ ]", "load a, push 1, do 5, unless 5, go 5"},
		{"if < a 1 [ stop ] [ ]", "load a, push 1, do 5, unless 6, stop, go 6"},
		{"if < a 1 [ ] [ stop ]", "load a, push 1, do 5, unless 5, go 6, stop"},
		{"if < a 1 [ cut b ] [ stop ]", "load a, push 1, do 5, unless 6, cut b, go 7, stop"},
		{"if = a 1 [ set b 1 cut c ] [ ]", "load a, push 1, do 6, unless 8, push 1, set b, cut c, go 8"},
		{"if = a 1 [ ] [ set b 1 cut c ]", "load a, push 1, do 6, unless 5, go 8, push 1, set b, cut c"},
		{"if = a 1 [ set b 1 stop ] [ cut c cut d cut e ]", "load a, push 1, do 6, unless 8, push 1, set b, stop, go 11, cut c, cut d, cut e"},
		{"if = 1 1 [ if = 2 2 [ ] [ ] ] [ ]", "push 1, push 1, do 6, unless 10, push 2, push 2, do 6, unless 9, go 9, go 10"},
		{"if = 1 1 [ ] [ if = 2 2 [ ] [ ] ]", "push 1, push 1, do 6, unless 5, go 10, push 2, push 2, do 6, unless 10, go 10"},
		{"if = 1 1 [ if = 2 2 [ stop ] [ cut a ] ] [ cut b ]", "push 1, push 1, do 6, unless 12, push 2, push 2, do 6, unless 10, stop, go 11, cut a, go 13, cut b"},
		{"if = 1 1 [ cut b ] [ if = 2 2 [ stop ] [ cut a ] ]", "push 1, push 1, do 6, unless 6, cut b, go 13, push 2, push 2, do 6, unless 12, stop, go 13, cut a"},
		{"if = 1 1 [ while = 2 2 [ ] ] [ ]", "push 1, push 1, do 6, unless 11, tick, push 2, push 2, do 6, unless 10, go 4, go 11"},
		{"if = 1 1 [ ] [ while = 2 2 [ ] ]", "push 1, push 1, do 6, unless 5, go 11, tick, push 2, push 2, do 6, unless 11, go 5"},
		{"if = 1 1 [ stop while = 2 2 [ ] ] [ while = 3 3 [ ] stop ]", "push 1, push 1, do 6, unless 12, stop, tick, push 2, push 2, do 6, unless 11, go 5, go 19, tick, push 3, push 3, do 6, unless 18, go 12, stop"},
	})
}

func TestCodeOfWhile(t *testing.T) {
	checkCodeExamples(t, []codeExample{
		{"while < a 1 [ ]", "tick, load a, push 1, do 5, unless 6, go 0"},
		{"while < a 1 [ stop ]", "tick, load a, push 1, do 5, unless 7, stop, go 0"},
		{"while < a 1 [ set a + a 1 ]", "tick, load a, push 1, do 5, unless 10, load a, push 1, do 1, set a, go 0"},
		{"while < a 1 [ cut a stop ]", "tick, load a, push 1, do 5, unless 8, cut a, stop, go 0"},
		{"while = 1 1 [ while = 2 2 [ ] ]", "tick, push 1, push 1, do 6, unless 12, tick, push 2, push 2, do 6, unless 11, go 5, go 0"},
		{"while = 1 1 [ stop while = 2 2 [ cut a ] cut b ]", "tick, push 1, push 1, do 6, unless 15, stop, tick, push 2, push 2, do 6, unless 13, cut a, go 6, cut b, go 0"},
		{"while = 1 1 [ if = 2 2 [ ] [ ] ]", "tick, push 1, push 1, do 6, unless 11, push 2, push 2, do 6, unless 10, go 10, go 0"},
		{"while = 1 1 [ if = 2 2 [ stop ] [ ] ]", "tick, push 1, push 1, do 6, unless 12, push 2, push 2, do 6, unless 11, stop, go 11, go 0"},
		{"while = 1 1 [ if = 2 2 [ ] [ stop ] ]", "tick, push 1, push 1, do 6, unless 12, push 2, push 2, do 6, unless 10, go 11, stop, go 0"},
		{"while = 1 1 [ while = 2 2 [ ] while = 3 3 [ ] ]", "tick, push 1, push 1, do 6, unless 18, tick, push 2, push 2, do 6, unless 11, go 5, tick, push 3, push 3, do 6, unless 17, go 11, go 0"},
	})
}

func TestCodeOfStatementsOneAfterTheOther(t *testing.T) {
	checkCodeExamples(t, []codeExample{
		{"stop while < a 1 [ ]", "stop, tick, load a, push 1, do 5, unless 7, go 1"},
		{"while < a 1 [ ] stop", "tick, load a, push 1, do 5, unless 6, go 0, stop"},
		{"stop if < a 1 [ ] [ ]", "stop, load a, push 1, do 5, unless 6, go 6"},
		{"if < a 1 [ ] [ ] stop", "load a, push 1, do 5, unless 5, go 5, stop"},
		{"set b c if < a 1 [ cut d ] [ stop ] set e f", "load c, set b, load a, push 1, do 5, unless 8, cut d, go 9, stop, load f, set e"},
		{"set b c while < a 1 [ cut d ] set e f", "load c, set b, tick, load a, push 1, do 5, unless 9, cut d, go 2, load f, set e"},
		{"while < a 1 [ ] while = a 2 [ ]", "tick, load a, push 1, do 5, unless 6, go 0, tick, load a, push 2, do 6, unless 12, go 6"},
		{"if < a 1 [ ] [ ] if = a 2 [ ] [ ]", "load a, push 1, do 5, unless 5, go 5, load a, push 2, do 6, unless 10, go 10"},
		{"if < a 1 [ stop ] [ ] while = a 2 [ stop ] cut a", "load a, push 1, do 5, unless 6, stop, go 6, tick, load a, push 2, do 6, unless 13, stop, go 6, cut a"},
		{"while < a @0 [ set a + a 1 ] if = a 3 [ stop ] [ cut b ]", "tick, load a, given 0, do 5, unless 10, load a, push 1, do 1, set a, go 0, load a, push 3, do 6, unless 16, stop, go 17, cut b"},
	})
}

func TestCodeOfDeepBrackets(t *testing.T) {
	checkCodeExamples(t, []codeExample{
		{
			"while = 1 1 [ while = 2 2 [ while = 3 3 [ while = 4 4 [ while = 5 5 [ stop ] ] ] ] ]",
			"tick, push 1, push 1, do 6, unless 31, tick, push 2, push 2, do 6, unless 30, tick, push 3, push 3, do 6, unless 29, " +
				"tick, push 4, push 4, do 6, unless 28, tick, push 5, push 5, do 6, unless 27, stop, go 20, go 15, go 10, go 5, go 0",
		},
		{
			"if = 1 1 [ if = 2 2 [ if = 3 3 [ if = 4 4 [ if = 5 5 [ stop ] [ ] ] [ ] ] [ ] ] [ ] ] [ ]",
			"push 1, push 1, do 6, unless 26, push 2, push 2, do 6, unless 25, push 3, push 3, do 6, unless 24, push 4, push 4, do 6, unless 23, " +
				"push 5, push 5, do 6, unless 22, stop, go 22, go 23, go 24, go 25, go 26",
		},
		{
			"if = 1 1 [ ] [ if = 2 2 [ ] [ if = 3 3 [ ] [ if = 4 4 [ ] [ if = 5 5 [ ] [ stop ] ] ] ] ]",
			"push 1, push 1, do 6, unless 5, go 26, push 2, push 2, do 6, unless 10, go 26, push 3, push 3, do 6, unless 15, go 26, " +
				"push 4, push 4, do 6, unless 20, go 26, push 5, push 5, do 6, unless 25, go 26, stop",
		},
	})
	for count := 1; count <= 5; count++ {
		for _, kinds := range kindsOfWrappers(count) {
			for _, inner := range []string{"", "stop", "set a + 1 + 1 1", "cut a stop"} {
				checkQuickCode(t, plainTokens(wrappedText(inner, kinds)))
			}
		}
	}
}

func TestCodeOfSomeRecipes(t *testing.T) {
	for _, ex := range someRecipes() {
		l := plainTokens(ex.text)
		checkCode(t, l, plainCode(l))
	}
	for _, ex := range deedExamples() {
		checkQuickCode(t, plainTokens(ex.text))
	}
}

func TestCodeOfEveryOperandAndOperator(t *testing.T) {
	operands := map[string]string{"@0": "given 0", "@1": "given 1", "@2": "given 2"}
	for _, n := range edgeWords() {
		operands[fmt.Sprint(n)] = fmt.Sprint("push ", n)
	}
	for _, name := range slices.Concat(someNames(), heads(), strings.Fields(opWords)) {
		operands[name] = "load " + name
	}
	for token, text := range operands {
		checkCode(t, []string{"set", "a", token}, []string{text, "set a", "end"})
		checkCode(t, []string{"set", "a", "-", token, "1"}, []string{text, "push 1", "do 2", "set a", "end"})
		checkCode(t, []string{"set", "a", "-", "1", token}, []string{"push 1", text, "do 2", "set a", "end"})
		checkCode(t, []string{"while", "<", token, token, "[", "]"}, []string{"tick", text, text, "do 5", "unless 6", "go 0", "end"})
	}
	for i, op := range strings.Split(operators, "") {
		operation := fmt.Sprint("do ", i+1)
		switch {
		case strings.Contains("+-*/", op):
			checkCode(t, plainTokens("set a "+op+" 1 b"), []string{"push 1", "load b", operation, "set a", "end"})
		case op != "&":
			checkCode(t, plainTokens("if "+op+" 1 b [ ] [ ]"), []string{"push 1", "load b", operation, "unless 5", "go 5", "end"})
		default:
			checkCode(t, plainTokens("if & < 1 b = c 2 [ ] [ ]"), []string{"push 1", "load b", "do 5", "load c", "push 2", "do 6", "do 7", "unless 9", "go 9", "end"})
		}
	}
}

func TestCodeOfDeepExpressions(t *testing.T) {
	for kind, forms := range map[int][]string{1: {"set a %s", "stop set a %s stop"}, 2: {"while %s [ ]", "if %s [ stop ] [ cut a ]", "stop while %s [ stop ] stop"}} {
		for depth := kind; depth <= 6; depth++ {
			for _, sum := range deepSums(kind, depth) {
				for _, form := range forms {
					l := plainTokens(fmt.Sprintf(form, strings.Join(sum, " ")))
					if is := checkQuickCode(t, l); is != (depth <= 5 && len(l) <= 120) {
						t.Errorf("%q is a recipe: %v", l, is)
					}
				}
			}
		}
	}
}

func TestCodeOfMaxSigns(t *testing.T) {
	for _, count := range []int{118, 119, 120} {
		for _, l := range listsOf(t, count) {
			checkCode(t, l, plainCode(l))
		}
	}
	for _, l := range listsOf(t, 121) {
		checkCode(t, l, nil)
	}
	checkCode(t, slices.Repeat([]string{"stop"}, 120), append(slices.Repeat([]string{"stop"}, 120), "end"))
	// The greatest indices that there can be.
	stops := slices.Repeat([]string{"stop"}, 112)
	checkCode(t, slices.Concat(plainTokens("if < a 1 ["), stops, plainTokens("] [ ]")), slices.Concat([]string{"load a", "push 1", "do 5", "unless 117"}, stops, []string{"go 117", "end"}))
	checkCode(t, slices.Concat(stops, plainTokens("if < a 1 [ ] [ ]")), slices.Concat(stops, []string{"load a", "push 1", "do 5", "unless 117", "go 117", "end"}))
	stops = slices.Repeat([]string{"stop"}, 114)
	checkCode(t, slices.Concat(stops, plainTokens("while < a 1 [ ]")), slices.Concat(stops, []string{"tick", "load a", "push 1", "do 5", "unless 120", "go 114", "end"}))
	checkCode(t, slices.Concat(plainTokens("while < a 1 ["), stops, plainTokens("]")), slices.Concat([]string{"tick", "load a", "push 1", "do 5", "unless 120"}, stops, []string{"go 0", "end"}))
}

func TestCodeOfAnyRecipes(t *testing.T) {
	source := rand.New(rand.NewSource(114))
	counts := map[int]int{}
	for range 3000 {
		l := tokensOf(anyRecipe(source, 120))
		if !checkQuickCode(t, l) {
			t.Fatalf("%q is no recipe", l)
		}
		counts[len(l)/30]++
	}
	for size := range 4 {
		if counts[size] < 50 {
			t.Errorf("only %d recipes have from %d tokens on", counts[size], 30*size)
		}
	}
}

func TestCodeOfRecipesThatAreChanged(t *testing.T) {
	source := rand.New(rand.NewSource(115))
	tokens := slices.Concat(goodTokens(), badTokens(), heads(), []string{"[", "]", "[", "]"})
	counts := map[bool]int{}
	for range 5000 {
		l := append(tokensOf(anyRecipe(source, 118)), "stop")
		at, token := source.Intn(len(l)), tokens[source.Intn(len(tokens))]
		switch source.Intn(3) {
		case 0:
			l = slices.Insert(l, at, token)
		case 1:
			l = slices.Delete(l, at, at+1)
		default:
			l[at] = token
		}
		counts[checkQuickCode(t, l)]++
	}
	if counts[true] < 300 || counts[false] < 300 {
		t.Errorf("recipes and others: %v", counts)
	}
}

// Each list of up to 5 of these parts is checked.
func TestCodeOfAllShortRecipes(t *testing.T) {
	parts := [][]string{{"set"}, {"cut"}, {"stop"}, {"if"}, {"while"}, {"a"}, {"1"}, {"<", "a", "1"}, {"["}, {"]"}, {"[", "]"}}
	lists, recipes := [][]string{nil}, 0
	for range 5 {
		var longer [][]string
		for _, l := range lists {
			for _, part := range parts {
				longer = append(longer, slices.Concat(l, part))
			}
		}
		lists = longer
		for _, l := range lists {
			if checkQuickCode(t, l) {
				recipes++
			}
		}
	}
	if recipes < 300 {
		t.Errorf("only %d of the lists are recipes", recipes)
	}
}

func TestCodeOfWhatIsNoRecipe(t *testing.T) {
	for _, text := range notRecipes() {
		checkCode(t, plainTokens(text), nil)
	}
	for _, l := range [][]string{
		{""}, {" "}, {"what"}, {"end"}, {"tick"}, {"push", "1"}, {"go", "0"}, {"load", "a"}, {"set"}, {"set", "a"}, {"set a 1"}, {"set", "a", "1", "2"}, {"set", "a", "<", "1", "2"}, {"set", "1", "1"},
		{"cut"}, {"cut", "1"}, {"cut", "a", "b"}, {"stop", "1"}, {"if", "1", "[", "]", "[", "]"}, {"if", "<", "a", "1", "[", "]"}, {"while", "a", "[", "]"}, {"while", "<", "a", "1", "[", "]", "[", "]"},
		{"while", "<", "a", "1", "["}, {"while", "<", "a", "1", "]"}, {"[", "]"}, {"]"}, {"["}, {"stop", "]"}, {"set", "a", "2147483648"}, {"set", "a", "@3"}, {"set", "a", "01"}, {"cut", "abcdefghi"},
		plainTokens("set a + 1 + 1 + 1 + 1 + 1 1"), plainTokens(wrappedText("stop", []int{0, 0, 0, 0, 0, 0})), slices.Repeat([]string{"stop"}, 121),
	} {
		if got := impl.CodeOf(l); len(got) != 0 {
			t.Errorf("CodeOf(%s) = %q", shownTokens(l), textsOfOps(got))
		}
		checkCode(t, append([]string{"stop"}, l...), nil)
		checkCode(t, append([]string{"cut", "a"}, l...), nil)
	}
}

// A recipe that is cut short is one only where a statement of it ends.
func TestCodeOfRecipesThatAreCutShort(t *testing.T) {
	counts := map[bool]int{}
	for _, ex := range someRecipes() {
		l := plainTokens(ex.text)
		for i := range len(l) + 1 {
			for _, part := range [][]string{l[:i], l[i:]} {
				counts[checkQuickCode(t, part)]++
			}
		}
	}
	if counts[true] < 50 || counts[false] < 50 {
		t.Errorf("recipes and others: %v", counts)
	}
}

// moved returns the code as it is behind that many other instructions.
func moved(code []impl.Op, by int64) []impl.Op {
	code = slices.Clone(code)
	for i, o := range code {
		if o.Kind == impl.OcGo || o.Kind == impl.OcUnless {
			code[i].Number += by
		}
	}
	return code
}

func TestCodeOfTwoRecipesOneAfterTheOther(t *testing.T) {
	source := rand.New(rand.NewSource(116))
	for range 2000 {
		a := tokensOf(anyRecipe(source, 100))
		b := tokensOf(anyRecipe(source, 120-len(a)))
		first, second := impl.CodeOf(a), impl.CodeOf(b)
		first = first[:len(first)-1]
		want := slices.Concat(first, moved(second, int64(len(first))))
		if got := impl.CodeOf(slices.Concat(a, b)); !slices.Equal(got, want) {
			t.Errorf("CodeOf(%q and %q) = %q, want %q", a, b, textsOfOps(got), textsOfOps(want))
		}
	}
}

// checkForm checks what the code of every recipe has in common.
func checkForm(t *testing.T, l []string, code []impl.Op) {
	t.Helper()
	if len(code) == 0 || len(code) > len(l)+1 || code[len(code)-1] != (impl.Op{Kind: impl.OcEnd}) {
		t.Fatalf("%q has the code %q", l, textsOfOps(code))
	}
	for i, o := range code {
		if !impl.OpOk(o) || o.Kind == impl.OcEnd && i < len(code)-1 {
			t.Errorf("%q has the code %q", l, textsOfOps(code))
		}
		if o.Kind != impl.OcGo && o.Kind != impl.OcUnless {
			continue
		}
		if o.Number >= int64(len(code)) || o.Kind == impl.OcUnless && code[o.Number-1].Kind != impl.OcGo {
			t.Errorf("%q has the code %q", l, textsOfOps(code))
		}
		if o.Number <= int64(i) && (o.Kind != impl.OcGo || code[o.Number].Kind != impl.OcTick) {
			t.Errorf("%q has the code %q", l, textsOfOps(code))
		}
	}
}

// A go leads back to a tick or forward, an unless forward behind a go, and each is as often there as its statements are.
func TestTheFormOfCodes(t *testing.T) {
	source := rand.New(rand.NewSource(117))
	for range 2000 {
		l := tokensOf(anyRecipe(source, 120))
		code := impl.CodeOf(l)
		checkForm(t, l, code)
		counts := map[int64]int{}
		for _, o := range code {
			counts[o.Kind]++
		}
		brackets := len(l) - len(slices.DeleteFunc(slices.Clone(l), func(token string) bool { return token == "[" }))
		// An if has two pairs of brackets, and a while has one.
		if choices := counts[impl.OcUnless]; choices != counts[impl.OcGo] || 2*choices-counts[impl.OcTick] != brackets {
			t.Errorf("%q has the code %q", l, textsOfOps(code))
		}
		if deeds := counts[impl.OcSet] + counts[impl.OcCut] + counts[impl.OcStop] + counts[impl.OcUnless]; int64(deeds) != impl.DeedsIn(l) {
			t.Errorf("%q has %d statements and the code %q", l, impl.DeedsIn(l), textsOfOps(code))
		}
	}
}

func TestInstructionsOfCodesAreReadBack(t *testing.T) {
	source := rand.New(rand.NewSource(118))
	for range 500 {
		for _, o := range impl.CodeOf(tokensOf(anyRecipe(source, 120))) {
			if got, is := impl.ReadOp(impl.ShowOp(o)); got != o || !is {
				t.Errorf("ReadOp(%q) = %+v, %v, want %+v", impl.ShowOp(o), got, is, o)
			}
		}
	}
}

func overwriteOps(code []impl.Op) {
	for i := range code[:cap(code)] {
		code[:cap(code)][i] = impl.Op{Kind: 99, Number: 99, Name: "?"}
	}
}

func TestCodeIsNewMemoryEachTime(t *testing.T) {
	for _, ex := range someRecipes() {
		l := plainTokens(ex.text)
		want := plainCode(l)
		first := impl.CodeOf(l)
		overwriteOps(impl.CodeOf(l))
		if !slices.Equal(textsOfOps(first), want) || strings.Join(l, " ") != ex.text {
			t.Errorf("%q has the code %q after another one was overwritten", l, textsOfOps(first))
		}
		checkCode(t, l, want)
		second := impl.CodeOf(l)
		overwriteTokens(l)
		if !slices.Equal(textsOfOps(second), want) {
			t.Errorf("%q has the code %q after its tokens were overwritten", ex.text, textsOfOps(second))
		}
	}
}

func TestCodeOfLongLists(t *testing.T) {
	for _, text := range []string{
		"[", "]", "[ ]", "] [", "set", "cut", "if", "while", "stop", "cut a", "set a 1", "if <", "while < a", "while < a 1", "while < a 1 [", "while < a 1 [ ]", "if < a 1 [ ]", "if < a 1 [ ] [", "if < a 1 [ ] [ ]",
		"+", "+ 1", "1", "a", "@0", "?", "set +", "set a + 1", "while &", "while = 1", "stop [", "stop ]",
	} {
		for _, count := range []int{121, 1000, 10000} {
			checkCode(t, slices.Repeat(plainTokens(text), count), nil)
		}
	}
	checkCode(t, slices.Repeat([]string{""}, 10000), nil)
	checkCode(t, []string{strings.Repeat("stop ", 100000)}, nil)
	checkCode(t, []string{"cut", strings.Repeat("a", 1000000)}, nil)
	checkCode(t, []string{"set", "a", strings.Repeat("1", 1000000)}, nil)
}

// With a small stack, a function that nests its calls as deep as the brackets or the operators would need more than it gets.
func TestCodeOfVeryManyTokens(t *testing.T) {
	defer debug.SetMaxStack(debug.SetMaxStack(8 << 20))
	for before, behind := range map[string]string{"while < a 1 [": "]", "if < a 1 [": "] [ ]", "if < a 1 [ ] [": "]", "[": "]", "while": "", "set a + 1 [": "1", "while < +": "1", "stop": "stop"} {
		l := deepDeeds(200000, before, behind)
		if got := impl.CodeOf(l); len(got) != 0 {
			t.Errorf("CodeOf(%s) has %d instructions", shownTokens(l), len(got))
		}
	}
	for _, sum := range [][]string{deepOnTheLeft("+", 200000, []string{"1"}), deepOnTheRight("+", 200000, []string{"1"})} {
		if got := impl.CodeOf(slices.Concat([]string{"set", "a"}, sum)); len(got) != 0 {
			t.Errorf("the code of %d tokens has %d instructions", len(sum), len(got))
		}
	}
}
