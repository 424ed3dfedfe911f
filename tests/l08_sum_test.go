package tests

import (
	"fmt"
	"math"
	"math/rand"
	"regexp"
	"runtime/debug"
	"slices"
	"strconv"
	"strings"
	"testing"

	"loop.example/g00526/impl"
)

// The place of an operator in this text, plus 1, is the number of its operation.
const operators = "+-*/<=&"

var (
	digitsForm  = regexp.MustCompile(`\A(0|-?[1-9][0-9]{0,9})\z`)
	operandForm = regexp.MustCompile(`\A(@[012]|[a-z]{1,8})\z`)
)

func plainOp(token string) int64 {
	if len(token) != 1 {
		return 0
	}
	return int64(strings.Index(operators, token)) + 1
}

func plainWord(token string) (int64, bool) {
	n, err := strconv.ParseInt(token, 10, 64)
	return n, err == nil && digitsForm.MatchString(token) && leastWord <= n && n <= greatestWord
}

func plainOperand(token string) bool {
	_, is := plainWord(token)
	return is || operandForm.MatchString(token)
}

// tree is an expression; it has two parts if its token is an operator, and otherwise none.
type tree struct {
	token string
	parts []tree
}

func joined(token string, left, right tree) tree { return tree{token, []tree{left, right}} }

// plainTree reads the expression with which l begins, and returns what stands behind it, too.
func plainTree(l []string) (tree, []string, bool) {
	if len(l) == 0 {
		return tree{}, nil, false
	}
	if plainOp(l[0]) == 0 {
		return tree{token: l[0]}, l[1:], plainOperand(l[0])
	}
	left, rest, is := plainTree(l[1:])
	if !is {
		return tree{}, nil, false
	}
	right, rest, is := plainTree(rest)
	return joined(l[0], left, right), rest, is
}

func (e tree) tokens() []string {
	l := []string{e.token}
	for _, part := range e.parts {
		l = append(l, part.tokens()...)
	}
	return l
}

func (e tree) depth() int64 {
	deepest := int64(0)
	for _, part := range e.parts {
		deepest = max(deepest, part.depth())
	}
	return 1 + deepest
}

func (e tree) kind() int64 {
	if len(e.parts) == 0 {
		return 1
	}
	left, right := e.parts[0].kind(), e.parts[1].kind()
	switch {
	case left == 1 && right == 1 && strings.Contains("+-*/", e.token):
		return 1
	case left == 1 && right == 1 && e.token != "&", left == 2 && right == 2 && e.token == "&":
		return 2
	}
	return 0
}

func (e tree) value(bins []impl.Bin, given []int64) (int64, bool) {
	if len(e.parts) == 0 {
		if n, is := plainWord(e.token); is {
			return n, true
		}
		if e.token[0] == '@' {
			return given[e.token[1]-'0'], true
		}
		return valuesOf(bins)[e.token], true
	}
	left, leftOk := e.parts[0].value(bins, given)
	right, rightOk := e.parts[1].value(bins, given)
	if !leftOk || !rightOk {
		return 0, false
	}
	return wantedOfDid(plainOp(e.token), left, right)
}

// scene is what an expression can refer to.
type scene struct {
	bins  []impl.Bin
	given []int64
}

func usualScene() scene {
	return scene{[]impl.Bin{bin("a", 7), bin("abcdefgh", leastWord), bin("hay", 100), bin("nil", 0)}, []int64{5, -9, greatestWord}}
}

func anyScene(source *rand.Rand) scene {
	s := scene{bins: anyBins(source)}
	for range 3 {
		s.given = append(s.given, edgeWords()[source.Intn(len(edgeWords()))])
	}
	return s
}

// answers are what the four functions return.
type answers struct {
	end, kind, depth, value int64
	known                   bool
}

var noSum = answers{end: -1}

func answersOf(l []string, at int64, s scene) answers {
	value, known := impl.SumOf(l, at, s.bins, s.given)
	return answers{impl.SumEnd(l, at), impl.KindOf(l, at), impl.DepthOf(l, at), value, known}
}

// plainAnswers takes a scene that is valid.
func plainAnswers(l []string, at int64, s scene) answers {
	if at < 0 || at >= int64(len(l)) {
		return noSum
	}
	e, rest, is := plainTree(l[at:])
	if !is {
		return noSum
	}
	want := answers{end: int64(len(l) - len(rest)), kind: e.kind(), depth: e.depth()}
	if want.kind != 0 {
		want.value, want.known = e.value(s.bins, s.given)
	}
	return want
}

// roomyList returns a copy of a list, and the same memory with its unused capacity, which holds what is given.
func roomyList[E any](l, room []E) ([]E, []E) {
	whole := slices.Concat(l, room)
	whole = whole[:len(whole):len(whole)]
	return whole[:len(l)], whole
}

// checkAnswers also checks that the arguments stay as they were. In their unused capacity stands what would make another
// expression of the tokens, or others of the bins and of what is given, if it counted.
func checkAnswers(t *testing.T, l []string, at int64, s scene, want answers) {
	t.Helper()
	for _, room := range [][]string{nil, {"1", "1", "1", "1"}, {"+", "a", "?"}} {
		tokens, wholeTokens := roomyList(l, room)
		bins, wholeBins := roomyBins(s.bins, len(room))
		given, wholeGiven := roomyList(s.given, []int64{1, 2, 3}[:len(room)/2])
		beforeTokens, beforeBins, beforeGiven := slices.Clone(wholeTokens), slices.Clone(wholeBins), slices.Clone(wholeGiven)
		if got := answersOf(tokens, at, scene{bins, given}); got != want {
			t.Errorf("%s at %d with %+v = %+v, want %+v", shownTokens(l), at, s, got, want)
		}
		if !slices.Equal(wholeTokens, beforeTokens) || !slices.Equal(wholeBins, beforeBins) || !slices.Equal(wholeGiven, beforeGiven) {
			t.Errorf("%s at %d changed an argument or its unused capacity", shownTokens(l), at)
		}
	}
}

func shownTokens(l []string) string {
	if len(l) > 30 {
		return fmt.Sprintf("%d tokens, the first of them %q", len(l), l[:10])
	}
	return fmt.Sprintf("%q", l)
}

func checkPlain(t *testing.T, l []string, at int64, s scene) {
	t.Helper()
	checkAnswers(t, l, at, s, plainAnswers(l, at, s))
}

func checkEveryIndex(t *testing.T, l []string, s scene) {
	t.Helper()
	for at := int64(-2); at <= int64(len(l))+2; at++ {
		checkPlain(t, l, at, s)
	}
}

// checkSum lets an expression stand alone, behind other tokens and before others. The end that is wanted is that of the
// expression alone.
func checkSum(t *testing.T, l []string, s scene, want answers) {
	t.Helper()
	around := [][]string{nil, {"1"}, {"+"}, {"<", "1"}, {"set", "hay"}, {"", "?", "@3"}}
	for _, before := range around {
		for _, behind := range around {
			moved := want
			if want.end >= 0 {
				moved.end += int64(len(before))
			}
			checkAnswers(t, slices.Concat(before, l, behind), int64(len(before)), s, moved)
		}
	}
}

func number(depth, value int64) answers {
	return answers{kind: 1, depth: depth, value: value, known: true}
}

func truth(depth int64, holds bool) answers {
	return answers{kind: 2, depth: depth, value: oneIf(holds), known: true}
}

// checkText takes an expression whose tokens are separated by blanks. It ends with its last token.
func checkText(t *testing.T, text string, want answers) {
	t.Helper()
	l := strings.Split(text, " ")
	want.end = int64(len(l))
	checkSum(t, l, usualScene(), want)
}

// checkNone checks tokens of which none begins an expression, whatever stands before them.
func checkNone(t *testing.T, l []string) {
	t.Helper()
	for _, before := range [][]string{nil, {"1"}, {"+", "1"}} {
		checkAnswers(t, slices.Concat(before, l), int64(len(before)), usualScene(), noSum)
	}
}

func goodTokens() []string {
	return []string{
		"+", "-", "*", "/", "<", "=", "&", "0", "1", "-1", "7", "-3", "65536", "46341", "2147483647", "-2147483648",
		"@0", "@1", "@2", "a", "hay", "oats", "zzzzzzzz", "abcdefgh", "set", "cut", "stop", "if", "while",
	}
}

func badTokens() []string {
	return []string{
		"", " ", "?", "[", "]", "(", ",", ">", "%", "!", "|", "^", "~", "#", "@", "@3", "@4", "@9", "@00", "@01", "@10", "@-1", "@-0", "@+1",
		"@ 0", "@0 ", " @0", "@@", "@@0", "@a", "@/", "@:", "0@", "a@0", "@0@1", "@4294967296", "@18446744073709551616", "\x000", "@\x00",
		"2147483648", "-2147483649", "4294967296", "4294967297", "-4294967296", "9999999999", "10000000000", "-10000000000",
		"9223372036854775808", "18446744073709551616", "18446744073709551617", "00", "01", "007", "-01", "-007", "+1", "+0", "-0", "+-1", "--1",
		"- 1", "1 ", " 1", "1\n", "1_0", "0x1", "1e3", "1.0", "1,0", "0b1", "one2", "-a", "1a", "a1", "A", "aB", "abcdefghi", "zzzzzzzzz",
		"a b", "a\n", "a\x00", "++", "+ ", " +", "--", "**", "//", "<=", "==", "&&", "<<", "+a", "<a", "+\n", "\xff", "\u00e4", "\uff0b", "\u2212", "\uff11", "\u0663",
		strings.Repeat("1", 1000), strings.Repeat("a", 1000), strings.Repeat("+", 1000),
	}
}

// anyTree returns an expression of that kind, at most that deep.
func anyTree(source *rand.Rand, kind, depth int64) tree {
	if kind == 2 {
		if depth > 2 && source.Intn(3) == 0 {
			return joined("&", anyTree(source, 2, depth-1), anyTree(source, 2, depth-1))
		}
		return joined([]string{"<", "="}[source.Intn(2)], anyTree(source, 1, depth-1), anyTree(source, 1, depth-1))
	}
	if depth > 1 && source.Intn(4) != 0 {
		return joined([]string{"+", "-", "*", "/"}[source.Intn(4)], anyTree(source, 1, depth-1), anyTree(source, 1, depth-1))
	}
	switch source.Intn(4) {
	case 0:
		return tree{token: fmt.Sprint("@", source.Intn(3))}
	case 1:
		return tree{token: binNames[source.Intn(len(binNames))]}
	}
	return tree{token: fmt.Sprint(edgeWords()[source.Intn(len(edgeWords()))])}
}

// shapeless returns an expression whose operands are of any kind.
func shapeless(source *rand.Rand, depth int64) tree {
	if depth == 1 || source.Intn(4) == 0 {
		return anyTree(source, 1, 1)
	}
	token := string(operators[source.Intn(len(operators))])
	return joined(token, shapeless(source, depth-1), shapeless(source, depth-1))
}

func TestKindNumbers(t *testing.T) {
	if impl.KdNumber != 1 || impl.KdTruth != 2 {
		t.Error(impl.KdNumber, impl.KdTruth)
	}
}

func TestSumOfOneToken(t *testing.T) {
	for text, value := range map[string]int64{
		"0": 0, "1": 1, "-1": -1, "9": 9, "10": 10, "-10": -10, "2147483647": greatestWord, "-2147483648": leastWord,
		"@0": 5, "@1": -9, "@2": greatestWord, "a": 7, "hay": 100, "abcdefgh": leastWord, "nil": 0,
		"b": 0, "z": 0, "ha": 0, "hayy": 0, "abcdefg": 0, "abcdefgi": 0, "zzzzzzzz": 0,
		"set": 0, "cut": 0, "stop": 0, "if": 0, "while": 0,
	} {
		checkText(t, text, number(1, value))
	}
}

func TestSumOfOneOperator(t *testing.T) {
	for text, want := range map[string]answers{
		"+ 3 4": number(2, 7), "- 3 4": number(2, -1), "* 3 4": number(2, 12), "/ 14 4": number(2, 3), "/ -14 4": number(2, -3),
		"/ 4 14": number(2, 0), "+ a hay": number(2, 107), "- a hay": number(2, -93), "- hay a": number(2, 93), "* @0 @1": number(2, -45),
		"/ hay @1": number(2, -11), "- 0 -2147483648": number(2, leastWord), "+ @2 1": number(2, leastWord), "* @2 2": number(2, -2),
		"/ abcdefgh -1": number(2, leastWord), "- b a": number(2, -7),
		"< 3 4": truth(2, true), "< 4 3": truth(2, false), "< 3 3": truth(2, false), "< a hay": truth(2, true), "< @0 @1": truth(2, false),
		"< -2147483648 @2": truth(2, true), "= 3 4": truth(2, false), "= 3 3": truth(2, true), "= a 7": truth(2, true), "= b nil": truth(2, true), "= 7 @0": truth(2, false),
		"& < 1 2 < 3 4": truth(3, true), "& < 1 2 < 4 3": truth(3, false), "& < 2 1 < 3 4": truth(3, false), "& = 1 2 = 2 1": truth(3, false),
	} {
		checkText(t, text, want)
	}
}

func TestSumsThatAreNested(t *testing.T) {
	for text, want := range map[string]answers{
		"- - 9 3 1": number(3, 5), "- 9 - 3 1": number(3, 7), "- - 9 3 - 2 1": number(3, 5),
		"/ / 100 5 2": number(3, 10), "/ 100 / 5 2": number(3, 50), "/ / 100 5 / 9 2": number(3, 5),
		"+ * a a * hay @1": number(3, -851), "* + 1 2 3": number(3, 9), "* 1 + 2 3": number(3, 5),
		"- - - 9 3 1 2": number(4, 3), "- 9 - 3 - 1 2": number(4, 5), "- - 9 - 3 1 2": number(4, 5), "- 9 - - 3 1 2": number(4, 9),
		"< + 1 2 * 2 2": truth(3, true), "< * 2 2 + 1 2": truth(3, false), "= - hay a 93": truth(3, true), "= 93 - a hay": truth(3, false),
		"& & < 1 2 = 1 1 < 3 4": truth(4, true), "& < 1 2 & = 1 2 < 3 4": truth(4, false), "& & < 1 2 < 2 3 & < 3 4 < 4 5": truth(4, true),
		"& < + 1 1 a = hay * 10 10": truth(4, true), "+ 2147483647 + 2147483647 2": number(3, 0), "* 65536 * 65536 a": number(3, 0),
	} {
		checkText(t, text, want)
	}
}

func TestDepthOfUnevenOperands(t *testing.T) {
	for text, depth := range map[string]int64{
		"a": 1, "+ 1 2": 2, "+ + 1 2 3": 3, "+ 1 + 2 3": 3, "+ + 1 2 + 3 4": 3, "+ + + 1 2 3 4": 4, "+ 1 + 2 + 3 4": 4, "+ + 1 + 2 3 4": 4, "+ 1 + + 2 3 4": 4,
		"+ + + 1 2 3 + 4 5": 4, "+ + 1 2 + 3 + 4 5": 4, "+ + + 1 2 + 3 4 + 5 6": 4, "+ + 1 2 + + 3 4 + 5 6": 4, "+ + + + 1 2 3 4 + 5 + 6 7": 5, "& 1 & 2 & 3 & 4 5": 5,
	} {
		l := strings.Split(text, " ")
		checkSum(t, l, usualScene(), plainAnswers(l, 0, usualScene()))
		if got := impl.DepthOf(l, 0); got != depth {
			t.Errorf("DepthOf(%q, 0) = %d, want %d", l, got, depth)
		}
	}
}

// A later index of an expression is that of one of its parts.
func TestSumsAtEveryIndex(t *testing.T) {
	for _, text := range []string{
		"set + hay * @1 -3 < 1 2", "+ 1 2", "1 2 3", "+ + 1 2 + 3 4", "+ + 1 2 + 3", "& < 1 2 = a a", "& < 1 2 = a", "- - - -", "- - 1", "? + 1 2 ? 3", "+ ? 1 2 3", "+ 1 ? 2 3",
		"if < a 1 [ set a 1 ] [ cut b ]", "while = a / 1 0 [ stop ]",
	} {
		checkEveryIndex(t, strings.Split(text, " "), usualScene())
	}
}

func TestSumsAtIndicesOutsideTheList(t *testing.T) {
	lists := [][]string{nil, {}, {"1"}, {"+"}, {"+", "1", "2"}, {"", ""}, {"set", "+", "hay", "*", "@1", "-3"}}
	for _, l := range lists {
		count := int64(len(l))
		for _, at := range []int64{
			-1, -2, -count - 1, count, count + 1, count + 2, 1000, -1000, 1 << 31, 1 << 32, 1<<32 + 1, -1 << 32, -1 << 31, 1 << 62,
			math.MaxInt64, math.MaxInt64 - 1, math.MinInt64, math.MinInt64 + 1,
		} {
			if at < 0 || at >= count {
				checkAnswers(t, l, at, usualScene(), noSum)
			}
		}
		checkEveryIndex(t, l, usualScene())
	}
}

func TestOperatorsWithoutOperands(t *testing.T) {
	for _, op := range operators {
		o := string(op)
		for _, l := range [][]string{{o}, {o, "1"}, {o, "a"}, {o, "@0"}, {o, o}, {o, o, "1"}, {o, o, "1", "1"}, {o, "1", o}, {o, "1", o, "1"}, {o, "+", "1", "1"}} {
			checkNone(t, l)
			for _, bad := range []string{"", "?", "]", "@3", "007"} {
				checkNone(t, append(slices.Clone(l), bad))
				checkNone(t, append(slices.Clone(l), bad, "1", "1", "1"))
			}
		}
	}
}

func TestSumsOfEveryToken(t *testing.T) {
	for _, bad := range append(badTokens(), "one-two") {
		checkNone(t, []string{bad})
		checkNone(t, []string{bad, "1"})
		checkNone(t, []string{"+", bad, "1", "1"})
		checkNone(t, []string{"+", "1", bad, "1"})
		checkNone(t, []string{"+", "+", "1", "1", bad})
		checkNone(t, []string{"*", "+", bad, "1", "1", "1"})
	}
	for _, token := range slices.Concat(notNames(), someNames(), goodTokens(), binNames) {
		for _, l := range [][]string{{token}, {token, "1", "2"}, {"-", token, "9"}, {"-", "9", token}, {"<", "-", token, "9", token}} {
			checkEveryIndex(t, l, usualScene())
		}
	}
}

func TestSumsOfEveryByte(t *testing.T) {
	for b := range 256 {
		one := string([]byte{byte(b)})
		for _, token := range []string{one, "@" + one, one + "0", "1" + one, "a" + one, one + "a", "-" + one} {
			checkEveryIndex(t, []string{token, "4", "2"}, usualScene())
		}
	}
}

func TestSumsOfWords(t *testing.T) {
	for _, n := range edgeWords() {
		checkText(t, fmt.Sprint(n), number(1, n))
		checkText(t, fmt.Sprint("+ 0 ", n), number(2, n))
	}
	for _, n := range notWords() {
		checkNone(t, []string{fmt.Sprint(n)})
		checkNone(t, []string{"+", "0", fmt.Sprint(n)})
	}
}

func TestSumsOfNames(t *testing.T) {
	for _, l := range someBins() {
		s := scene{l, []int64{1, 2, 3}}
		for _, b := range l {
			checkAnswers(t, []string{b.Name}, 0, s, answers{1, 1, 1, b.Value, true})
		}
		for _, name := range slices.Concat(someNames(), binNames) {
			value := valuesOf(l)[name]
			checkAnswers(t, []string{name, "1"}, 0, s, answers{1, 1, 1, value, true})
			checkAnswers(t, []string{"=", name, fmt.Sprint(value)}, 0, s, answers{3, 2, 2, 1, true})
		}
	}
}

func TestSumsOfArguments(t *testing.T) {
	for _, n := range edgeWords() {
		for i := range 3 {
			s := usualScene()
			s.given[i] = n
			for j, other := range s.given {
				token := fmt.Sprint("@", j)
				checkAnswers(t, []string{token}, 0, s, answers{1, 1, 1, other, true})
				checkAnswers(t, []string{"=", fmt.Sprint(other), token}, 0, s, answers{3, 2, 2, 1, true})
			}
		}
	}
}

// The operands are words, bins and arguments.
func TestSumsOfEachOperatorOnWords(t *testing.T) {
	for _, a := range edgeWords() {
		for _, b := range edgeWords() {
			s := scene{[]impl.Bin{bin("a", a), bin("b", b)}, []int64{a, 3, b}}
			for op := int64(1); op <= 6; op++ {
				kind := int64(1)
				if op >= 5 {
					kind = 2
				}
				want, fine := wantedOfDid(op, a, b)
				if got, done := impl.Did(op, a, b); got != want || done != fine {
					t.Errorf("Did(%d, %d, %d) = %d, %v", op, a, b, got, done)
				}
				o := operators[op-1 : op]
				for _, l := range [][]string{{o, fmt.Sprint(a), fmt.Sprint(b)}, {o, "a", "b"}, {o, "@0", "@2"}, {o, "a", "@2"}} {
					if got := answersOf(l, 0, s); got != (answers{3, kind, 2, want, fine}) {
						t.Errorf("%q with %+v = %+v, want %d, %v", l, s, got, want, fine)
					}
				}
			}
		}
	}
}

func TestSumsOfBothOnTruths(t *testing.T) {
	holding := []string{"= 0 0", "< 1 2", "< b a", "= @0 5", "& = 1 1 = 2 2", "< -2147483648 2147483647"}
	failing := []string{"= 0 1", "< 2 1", "< a a", "= @0 6", "& = 1 1 = 2 3", "& = 1 2 = 2 2", "& = 1 2 = 2 3", "< 2147483647 -2147483648"}
	for i, left := range append(holding, failing...) {
		for j, right := range append(holding, failing...) {
			l := strings.Split("& "+left+" "+right, " ")
			want := plainAnswers(l, 0, usualScene())
			checkAnswers(t, l, 0, usualScene(), answers{int64(len(l)), 2, want.depth, oneIf(i < len(holding) && j < len(holding)), true})
		}
	}
}

// texts of each kind; those of kind 0 have an operand of the wrong kind.
func textsOfKinds() [3][]string {
	return [3][]string{
		{"+ < 1 2 3", "< = 1 1 2", "& 1 2", "& < 1 2 3", "= 1 & < 1 2 < 1 2", "* 1 < 1 2", "+ 1 & 1 1"},
		{"1", "a", "@0", "+ 1 2", "- 1 a", "* @0 2", "/ 4 2", "+ * 1 2 - 3 4"},
		{"< 1 2", "= a @0", "& < 1 2 = 1 1", "< + 1 2 * 3 4", "& & < 1 2 < 1 2 < 1 2"},
	}
}

func TestKindsOfOperands(t *testing.T) {
	takes := map[string]int{"+": 1, "-": 1, "*": 1, "/": 1, "<": 1, "=": 1, "&": 2}
	yields := map[string]int64{"+": 1, "-": 1, "*": 1, "/": 1, "<": 2, "=": 2, "&": 2}
	for i, lefts := range textsOfKinds() {
		for j, rights := range textsOfKinds() {
			for op := range takes {
				want := int64(0)
				if i == takes[op] && j == takes[op] {
					want = yields[op]
				}
				for _, left := range lefts {
					for _, right := range rights {
						checkKind(t, op+" "+left+" "+right, want)
					}
				}
			}
		}
	}
}

func checkKind(t *testing.T, text string, want int64) {
	t.Helper()
	l := strings.Split(text, " ")
	got := answersOf(l, 0, usualScene())
	if got.kind != want || got != plainAnswers(l, 0, usualScene()) || want == 0 && (got.value != 0 || got.known) {
		t.Errorf("%q = %+v, want kind %d and %+v", text, got, want, plainAnswers(l, 0, usualScene()))
	}
}

func TestKindsThatAreWrong(t *testing.T) {
	wrong := []string{
		"< < 1 2 3", "< 3 < 1 2", "< = 1 2 = 1 2", "= < 1 2 3", "= 3 < 1 2", "= < 1 2 < 1 2", "= = 1 1 = 1 1", "< & < 1 2 < 1 2 1",
		"& 1 2", "& a @0", "& 0 0", "& 1 < 1 2", "& < 1 2 1", "& + 1 2 < 1 2", "& < 1 2 a", "& 1 0", "& @1 = 1 1",
		"+ < 1 2 3", "+ 3 < 1 2", "- = 1 2 3", "- 3 = 1 2", "* < 1 2 3", "* 3 < 1 2", "/ = 1 1 1", "/ 1 = 1 1", "+ & < 1 2 < 1 2 3", "+ < 1 2 < 1 2", "/ < 1 2 0",
	}
	for _, text := range wrong {
		checkKind(t, text, 0)
		for _, outer := range []string{"+ 1 %s", "+ %s 1", "< 1 %s", "= %s 1", "& %s < 1 2", "& = 1 1 %s", "* + 1 %s 2", "& & < 1 2 %s = 1 1", "& = 0 1 & %s < 1 2", "< - 1 * %s 2 a", "- 1 + 2 * 3 %s"} {
			checkKind(t, fmt.Sprintf(outer, text), 0)
		}
		l := strings.Split(text, " ")
		checkSum(t, l, usualScene(), plainAnswers(l, 0, usualScene()))
	}
}

// What is wrong with one expression is not wrong with another one before or behind it.
func TestKindsOfNeighbours(t *testing.T) {
	l := strings.Split("& 1 2 < 1 2 + < 1 2 3 a & < 1 2 = 1 1", " ")
	for at, kind := range map[int64]int64{0: 0, 1: 1, 2: 1, 3: 2, 4: 1, 6: 0, 7: 2, 10: 1, 11: 1, 12: 2, 13: 2, 16: 2} {
		if got := impl.KindOf(l, at); got != kind {
			t.Errorf("KindOf(%q, %d) = %d, want %d", l, at, got, kind)
		}
	}
	checkEveryIndex(t, l, usualScene())
}

func TestSumsThatDivideByNothing(t *testing.T) {
	for _, text := range []string{
		"/ 1 0", "/ 0 0", "/ -2147483648 0", "/ a nil", "/ a b", "/ @0 - 5 @0", "/ 1 / 1 2", "/ 1 * 65536 65536", "/ / 1 0 1", "/ 1 / 1 0", "/ 0 / 0 0",
		"+ / 1 0 1", "+ 1 / 1 0", "* 0 / 1 0", "* / 1 0 0", "- / 1 0 / 1 0", "+ 1 + 2 + 3 / 4 0", "+ + + / 4 0 3 2 1", "- 1 - / 1 0 2",
		"< / 1 0 1", "< 1 / 1 0", "= / 1 0 / 1 0", "= 0 / 0 0",
		"& < / 1 0 1 = 1 1", "& = 1 1 < / 1 0 1", "& = 0 1 = 1 / 1 0", "& = 0 1 < / 1 0 2", "& = 1 / 1 0 = 0 1", "& & = 0 1 = 0 1 < 1 / 1 0", "& = 0 1 & = 0 1 = 1 / 1 0", "& = 0 1 < 1 + 2 / a b",
	} {
		l := strings.Split(text, " ")
		want := plainAnswers(l, 0, usualScene())
		if want.kind == 0 || want.known {
			t.Fatalf("%q = %+v", text, want)
		}
		checkSum(t, l, usualScene(), want)
	}
	for text, want := range map[string]answers{"/ 0 1": number(2, 0), "/ nil a": number(2, 0), "/ 0 -2147483648": number(2, 0), "/ 1 / 2 2": number(3, 1), "+ 1 / 0 2": number(3, 1)} {
		checkText(t, text, want)
	}
}

// withLeaf returns the tree with another expression in place of the n-th of its operands that have one token, counted from 0.
func (e tree) withLeaf(n *int, other tree) tree {
	if len(e.parts) == 0 {
		*n--
		if *n == -1 {
			return other
		}
		return e
	}
	left := e.parts[0].withLeaf(n, other)
	return joined(e.token, left, e.parts[1].withLeaf(n, other))
}

func TestSumsThatDivideByNothingAnywhere(t *testing.T) {
	source := rand.New(rand.NewSource(81))
	nothing := joined("/", tree{token: "1"}, tree{token: "0"})
	for range 100 {
		e, s := anyTree(source, 1+source.Int63n(2), 5), anyScene(source)
		for i := range (len(e.tokens()) + 1) / 2 {
			at := i
			l := e.withLeaf(&at, nothing).tokens()
			got := answersOf(l, 0, s)
			if got.kind != e.kind() || got.end != int64(len(l)) || got.known || got.value != 0 {
				t.Errorf("%q with %+v = %+v", l, s, got)
			}
		}
	}
}

func TestSumOfRejectsBins(t *testing.T) {
	given := []int64{1, 2, 3}
	for what, bins := range notBins() {
		for _, text := range []string{"5", "a", "hay", "@0", "+ 1 2", "< a 1", "/ 1 0", "& 1 2", "+"} {
			l := strings.Split(text, " ")
			want := plainAnswers(l, 0, scene{nil, given})
			want.value, want.known = 0, false
			if got := answersOf(l, 0, scene{bins, given}); got != want {
				t.Errorf("%q with bins of which %s = %+v, want %+v", text, what, got, want)
			}
		}
	}
}

func TestSumOfRejectsWhatIsGiven(t *testing.T) {
	lists := [][]int64{nil, {}, {1}, {1, 2}, {1, 2, 3, 4}, {0, 0, 0, 0}, {1, 2, 3, 4, 5, 6}, make([]int64, 300), {leastWord - 1}, {1, 2, 3, greatestWord + 1}}
	for _, n := range notWords() {
		lists = append(lists, []int64{n, 2, 3}, []int64{1, n, 3}, []int64{1, 2, n}, []int64{n, n, n}, []int64{n, 2})
	}
	for _, given := range lists {
		for _, text := range []string{"5", "hay", "@0", "@1", "@2", "+ 1 2", "< a @0", "& = 1 1 < @2 @1", "/ 1 0", "& 1 2", "+", "@3"} {
			l := strings.Split(text, " ")
			s := usualScene()
			want := plainAnswers(l, 0, s)
			want.value, want.known = 0, false
			s.given = given
			checkAnswers(t, l, 0, s, want)
		}
	}
}

func TestSumOfRejectsWithValidBins(t *testing.T) {
	for _, bins := range someBins() {
		s := scene{bins, []int64{leastWord, 0, greatestWord}}
		for _, text := range []string{"", "?", "+", "+ 1", "& 1 2", "+ < 1 2 3", "< 1 & a b", "@3", "= @0 @4"} {
			checkPlain(t, strings.Split(text, " "), 0, s)
			if value, known := impl.SumOf(strings.Split(text, " "), 0, s.bins, s.given); value != 0 || known {
				t.Errorf("SumOf(%q) = %d, %v", text, value, known)
			}
		}
		checkAnswers(t, nil, 0, s, noSum)
		checkAnswers(t, []string{"1"}, 1, s, noSum)
		checkAnswers(t, []string{"1"}, -1, s, noSum)
	}
}

// An expression that is cut off is none, and one that is continued ends where it did.
func TestAnExpressionEndsAtOnePlace(t *testing.T) {
	source := rand.New(rand.NewSource(82))
	for range 150 {
		e, more := shapeless(source, 6).tokens(), shapeless(source, 4).tokens()
		for i := range e {
			if got := answersOf(e[:i], 0, usualScene()); got != noSum {
				t.Errorf("%q = %+v", e[:i], got)
			}
		}
		for i := range append(more, "") {
			if got := impl.SumEnd(slices.Concat(e, more[:i]), 0); got != int64(len(e)) {
				t.Errorf("SumEnd of %q before %q = %d", e, more[:i], got)
			}
		}
	}
}

func TestExpressionsOneAfterTheOther(t *testing.T) {
	source := rand.New(rand.NewSource(83))
	for range 60 {
		var l []string
		ends := []int64{}
		for range 8 {
			l = append(l, shapeless(source, 4).tokens()...)
			ends = append(ends, int64(len(l)))
		}
		var got []int64
		for at := impl.SumEnd(l, 0); at != -1; at = impl.SumEnd(l, at) {
			got = append(got, at)
		}
		if !slices.Equal(got, ends) {
			t.Errorf("%q ends at %d, want %d", l, got, ends)
		}
		checkEveryIndex(t, l, usualScene())
	}
}

// The first operand begins behind the operator, the second one where the first one ends, and the whole ends with it.
func TestAnExpressionIsMadeOfItsOperands(t *testing.T) {
	source := rand.New(rand.NewSource(84))
	for range 1500 {
		l, s := shapeless(source, 6).tokens(), anyScene(source)
		if source.Intn(2) == 0 {
			l = anyTree(source, 1+source.Int63n(2), 6).tokens()
		}
		for at := range l {
			checkOperands(t, l, int64(at), s)
		}
	}
}

func checkOperands(t *testing.T, l []string, at int64, s scene) {
	t.Helper()
	op := plainOp(l[at])
	if op == 0 {
		return
	}
	whole, left := answersOf(l, at, s), answersOf(l, at+1, s)
	right := answersOf(l, left.end, s)
	want := answers{end: right.end, depth: 1 + max(left.depth, right.depth)}
	takes, yields := int64(1), int64(1)
	if op == impl.OpBoth {
		takes = 2
	}
	if op >= impl.OpBelow {
		yields = 2
	}
	if left.kind == takes && right.kind == takes {
		want.kind = yields
	}
	if want.kind != 0 && left.known && right.known {
		want.value, want.known = impl.Did(op, left.value, right.value)
	}
	if whole != want || whole.kind == 2 && whole.value != 0 && whole.value != 1 {
		t.Errorf("%q at %d with %+v = %+v, of which %+v and %+v are the operands", l, at, s, whole, left, right)
	}
}

// sameValue returns other expressions of this kind that have this value in every scene.
func sameValue(kind, value int64) []tree {
	zero, word := tree{token: "0"}, tree{token: fmt.Sprint(value)}
	if kind == 1 {
		return []tree{word, joined("+", word, zero), joined("-", word, zero), joined("*", tree{token: "1"}, word)}
	}
	same := joined("=", word, tree{token: "1"})
	return []tree{same, joined("<", zero, word), joined("&", same, same)}
}

func TestAValueIsDeterminedByThoseOfTheOperands(t *testing.T) {
	source := rand.New(rand.NewSource(85))
	compared := 0
	for range 1000 {
		e, s := anyTree(source, 1+source.Int63n(2), 5), anyScene(source)
		if len(e.parts) == 0 {
			continue
		}
		left, right := answersOf(e.parts[0].tokens(), 0, s), answersOf(e.parts[1].tokens(), 0, s)
		if !left.known || !right.known {
			continue
		}
		compared++
		whole := answersOf(e.tokens(), 0, s)
		for _, first := range sameValue(left.kind, left.value) {
			for _, second := range sameValue(right.kind, right.value) {
				got := answersOf(joined(e.token, first, second).tokens(), 0, anyScene(source))
				if got.value != whole.value || got.known != whole.known || got.kind != whole.kind {
					t.Errorf("%q with %+v = %+v, but with operands of the same values %+v", e.tokens(), s, whole, got)
				}
			}
		}
	}
	if compared < 300 {
		t.Errorf("only %d expressions were compared", compared)
	}
}

func TestSumsOfAnyTrees(t *testing.T) {
	source := rand.New(rand.NewSource(86))
	for range 300 {
		s := anyScene(source)
		checkPlain(t, anyTree(source, 1, 6).tokens(), 0, s)
		checkPlain(t, anyTree(source, 2, 6).tokens(), 0, s)
		checkPlain(t, shapeless(source, 6).tokens(), 0, s)
	}
}

func TestSumsOfAnyTokens(t *testing.T) {
	source := rand.New(rand.NewSource(87))
	good, bad := goodTokens(), badTokens()
	for range 1500 {
		var l []string
		for range source.Intn(14) {
			if source.Intn(20) == 0 {
				l = append(l, bad[source.Intn(len(bad))])
			} else if source.Intn(2) == 0 {
				l = append(l, good[source.Intn(7)])
			} else {
				l = append(l, good[source.Intn(len(good))])
			}
		}
		checkEveryIndex(t, l, anyScene(source))
	}
}

// Each list of up to 5 of these tokens is checked at its beginning; its other indices are the beginnings of shorter lists.
func TestSumsOfAllShortLists(t *testing.T) {
	s := usualScene()
	lists := [][]string{nil}
	for range 5 {
		var longer [][]string
		for _, l := range lists {
			for _, token := range []string{"-", "/", "<", "&", "0", "a", "@0", "?"} {
				longer = append(longer, append(slices.Clone(l), token))
			}
		}
		lists = longer
		for _, l := range lists {
			if got, want := answersOf(l, 0, s), plainAnswers(l, 0, s); got != want {
				t.Errorf("%q = %+v, want %+v", l, got, want)
			}
		}
	}
}

// deepOnTheLeft and deepOnTheRight nest an operator that often in itself.
func deepOnTheLeft(op string, count int, operand []string) []string {
	return slices.Concat(slices.Repeat([]string{op}, count), slices.Repeat(operand, count+1))
}

func deepOnTheRight(op string, count int, operand []string) []string {
	return slices.Concat(slices.Repeat(slices.Concat([]string{op}, operand), count), operand)
}

// deepInTurns nests by turns on the left and on the right.
func deepInTurns(op string, count int, operand []string) []string {
	var head, tail []string
	for i := range count {
		head = append(head, op)
		if i%2 == 0 {
			tail = slices.Concat(tail, operand)
		} else {
			head = append(head, operand...)
		}
	}
	return slices.Concat(head, operand, tail)
}

// deepOnBothSides is full: every operand of depth 1 is that deep.
func deepOnBothSides(op string, depth int, operand []string) []string {
	l := operand
	for range depth {
		l = slices.Concat([]string{op}, l, l)
	}
	return l
}

func TestDeepSumsExamples(t *testing.T) {
	one := []string{"1"}
	for text, l := range map[string][]string{
		"+ + + 1 1 1 1": deepOnTheLeft("+", 3, one), "+ 1 + 1 + 1 1": deepOnTheRight("+", 3, one),
		"+ + 1 + 1 1 1": deepInTurns("+", 3, one), "+ + 1 1 + 1 1": deepOnBothSides("+", 2, one),
	} {
		if strings.Join(l, " ") != text {
			t.Errorf("%q, want %q", l, text)
		}
	}
}

func TestDeepSums(t *testing.T) {
	one, same := []string{"1"}, []string{"=", "a", "7"}
	for _, count := range []int{1, 2, 50, 99, 100, 101, 150, 299, 300, 499, 500} {
		length, depth := int64(2*count+1), int64(count+1)
		odd := int64(count % 2)
		for _, deep := range []func(string, int, []string) []string{deepOnTheLeft, deepOnTheRight, deepInTurns} {
			checkAnswers(t, deep("+", count, one), 0, usualScene(), answers{length, 1, depth, depth, true})
			checkAnswers(t, deep("*", count, []string{"-1"}), 0, usualScene(), answers{length, 1, depth, 2*odd - 1, true})
			checkAnswers(t, deep("&", count, same), 0, usualScene(), answers{length + 2*depth, 2, depth + 1, 1, true})
			checkAnswers(t, deep("&", count, one), 0, usualScene(), answers{end: length, depth: depth})
			checkAnswers(t, deep("/", count, []string{"nil"}), 0, usualScene(), answers{end: length, kind: 1, depth: depth})
		}
		checkAnswers(t, deepOnTheLeft("-", count, one), 0, usualScene(), answers{length, 1, depth, int64(1 - count), true})
		checkAnswers(t, deepOnTheRight("-", count, one), 0, usualScene(), answers{length, 1, depth, 1 - odd, true})
	}
	for depth := range 9 {
		size := int64(1) << depth
		checkAnswers(t, deepOnBothSides("+", depth, one), 0, usualScene(), answers{2*size - 1, 1, int64(depth) + 1, size, true})
		checkAnswers(t, deepOnBothSides("&", depth, same), 0, usualScene(), answers{4*size - 1, 2, int64(depth) + 2, 1, true})
	}
}

// One operand at the bottom decides on the whole.
func TestDeepSumsWithOneOtherOperand(t *testing.T) {
	for _, deep := range []func(string, int, []string) []string{deepOnTheLeft, deepOnTheRight, deepInTurns} {
		sum := deep("+", 200, []string{"1"})
		for at, token := range sum {
			if token == "1" {
				checkAnswers(t, slices.Concat(sum[:at], []string{"9"}, sum[at+1:]), 0, usualScene(), answers{401, 1, 201, 209, true})
				checkAnswers(t, slices.Concat(sum[:at], []string{"?"}, sum[at+1:]), 0, usualScene(), noSum)
				for _, other := range []string{"< 1 2", "/ 1 0"} {
					checkPlain(t, slices.Concat(sum[:at], strings.Split(other, " "), sum[at+1:]), 0, usualScene())
				}
			}
		}
	}
}

func TestDeepListsThatAreNoSums(t *testing.T) {
	for _, count := range []int{1, 100, 300, 500} {
		for _, op := range operators {
			o := string(op)
			checkAnswers(t, slices.Repeat([]string{o}, count), 0, usualScene(), noSum)
			checkAnswers(t, slices.Repeat([]string{o, "1"}, count), 0, usualScene(), noSum)
			checkAnswers(t, append(slices.Repeat([]string{o}, count), slices.Repeat([]string{"1"}, count)...), 0, usualScene(), noSum)
			checkAnswers(t, append(slices.Repeat([]string{o}, count), "?"), 0, usualScene(), noSum)
		}
	}
}

// A function that nests its calls as deep as the tokens needs more than the stack it gets, if there are enough of them. With
// a small stack, these are enough.
func TestSumsOfVeryManyTokens(t *testing.T) {
	defer debug.SetMaxStack(debug.SetMaxStack(8 << 20))
	count := 300000
	for _, deep := range []func(string, int, []string) []string{deepOnTheLeft, deepOnTheRight} {
		want := answers{int64(2*count + 1), 1, int64(count + 1), int64(count + 1), true}
		if got := answersOf(deep("+", count, []string{"1"}), 0, usualScene()); got != want {
			t.Errorf("%+v, want %+v", got, want)
		}
	}
	if got := answersOf(slices.Repeat([]string{"&"}, 2*count), 0, usualScene()); got != noSum {
		t.Errorf("%+v", got)
	}
}
