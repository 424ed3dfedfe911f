package tests

import (
	"fmt"
	"maps"
	"math"
	"math/rand"
	"runtime/debug"
	"slices"
	"strings"
	"testing"

	"loop.example/g00526/impl"
)

// What follows the head of a statement: n is a name, 1 and 2 are an expression of this kind, and b is a block.
var forms = map[string]string{"set": "n1", "cut": "n", "stop": "", "if": "2bb", "while": "2b"}

func heads() []string { return slices.Sorted(maps.Keys(forms)) }

// step is a statement. It has a name, a sum and blocks as its form wants them.
type step struct {
	head, name string
	sums       []tree
	blocks     [][]step
}

// plainStep reads the statement with which l begins, and returns what stands behind it, too. It knows no limits.
func plainStep(l []string) (step, []string, bool) {
	if len(l) == 0 {
		return step{}, nil, false
	}
	form, is := forms[l[0]]
	s, rest := step{head: l[0]}, l[1:]
	for _, part := range form {
		if is {
			rest, is = s.readPart(part, rest)
		}
	}
	return s, rest, is
}

func (s *step) readPart(part rune, l []string) ([]string, bool) {
	switch part {
	case 'n':
		if len(l) == 0 || !plainName(l[0]) {
			return nil, false
		}
		s.name = l[0]
		return l[1:], true
	case 'b':
		if len(l) == 0 || l[0] != "[" {
			return nil, false
		}
		block, rest := plainSteps(l[1:])
		if len(rest) == 0 || rest[0] != "]" {
			return nil, false
		}
		s.blocks = append(s.blocks, block)
		return rest[1:], true
	}
	e, rest, is := plainTree(l)
	s.sums = append(s.sums, e)
	return rest, is && e.kind() == int64(part-'0')
}

// plainSteps reads as many statements as there are.
func plainSteps(l []string) ([]step, []string) {
	var made []step
	for {
		s, rest, is := plainStep(l)
		if !is {
			return made, l
		}
		made, l = append(made, s), rest
	}
}

func (s step) tokens() []string {
	l := []string{s.head}
	if s.name != "" {
		l = append(l, s.name)
	}
	for _, e := range s.sums {
		l = append(l, e.tokens()...)
	}
	for _, block := range s.blocks {
		l = slices.Concat(l, []string{"["}, tokensOf(block), []string{"]"})
	}
	return l
}

func tokensOf(steps []step) []string {
	var l []string
	for _, s := range steps {
		l = append(l, s.tokens()...)
	}
	return l
}

// brackets returns how deep they are nested.
func (s step) brackets() int64 {
	deepest := int64(0)
	for _, block := range s.blocks {
		deepest = max(deepest, 1)
		for _, inner := range block {
			deepest = max(deepest, 1+inner.brackets())
		}
	}
	return deepest
}

// withinLimits leaves open how many tokens there are.
func (s step) withinLimits() bool {
	for _, e := range s.sums {
		if e.depth() > 5 {
			return false
		}
	}
	for _, block := range s.blocks {
		for _, inner := range block {
			if !inner.withinLimits() {
				return false
			}
		}
	}
	return s.brackets() <= 5
}

func (s step) count() int64 {
	count := int64(1)
	for _, block := range s.blocks {
		for _, inner := range block {
			count += inner.count()
		}
	}
	return count
}

func (s step) addNames(names map[string]bool) {
	if s.name != "" {
		names[s.name] = true
	}
	for _, e := range s.sums {
		for _, token := range e.tokens() {
			if plainName(token) {
				names[token] = true
			}
		}
	}
	for _, block := range s.blocks {
		for _, inner := range block {
			inner.addNames(names)
		}
	}
}

func plainEnd(l []string, at int64) int64 {
	if at < 0 || at >= int64(len(l)) {
		return -1
	}
	s, rest, is := plainStep(l[at:])
	if !is || !s.withinLimits() {
		return -1
	}
	return int64(len(l) - len(rest))
}

func plainRecipe(l []string) ([]step, bool) {
	steps, rest := plainSteps(l)
	for _, s := range steps {
		if !s.withinLimits() {
			return nil, false
		}
	}
	return steps, len(rest) == 0 && len(l) <= 120
}

func plainTokens(text string) []string {
	if text == "" {
		return nil
	}
	return strings.Split(text, " ")
}

// facts are what the functions return that take a whole recipe. The names are separated by blanks.
type facts struct {
	is    bool
	text  string
	names string
	deeds int64
}

var noRecipe = facts{deeds: -1}

func factsOf(l []string) facts {
	return facts{impl.RecipeOk(l), impl.ShowRecipe(l), strings.Join(impl.NamesIn(l), " "), impl.DeedsIn(l)}
}

func plainFacts(l []string) facts {
	steps, is := plainRecipe(l)
	if !is {
		return noRecipe
	}
	want, names := facts{is: true, text: strings.Join(l, " ")}, map[string]bool{}
	for _, s := range steps {
		want.deeds += s.count()
		s.addNames(names)
	}
	want.names = strings.Join(slices.Sorted(maps.Keys(names)), " ")
	return want
}

// behindTokens stands in the unused capacity of lists, where it would make another recipe or none if it counted.
func behindTokens() [][]string {
	return [][]string{nil, {"stop", "cut", "b"}, {"]", "]", "]"}, {"1", "1", "[", "]", "[", "]"}, {"?"}}
}

func checkFacts(t *testing.T, l []string, want facts) {
	t.Helper()
	for _, room := range behindTokens() {
		tokens, whole := roomyList(l, room)
		before := slices.Clone(whole)
		if got := factsOf(tokens); got != want {
			t.Errorf("%s = %+v, want %+v", shownTokens(l), got, want)
		}
		if !slices.Equal(whole, before) {
			t.Errorf("%s or its unused capacity was changed", shownTokens(l))
		}
	}
}

func checkEnd(t *testing.T, l []string, at, want int64) {
	t.Helper()
	for _, room := range behindTokens() {
		tokens, whole := roomyList(l, room)
		before := slices.Clone(whole)
		if got := impl.DeedEnd(tokens, at); got != want {
			t.Errorf("DeedEnd(%s, %d) = %d, want %d", shownTokens(l), at, got, want)
		}
		if !slices.Equal(whole, before) {
			t.Errorf("%s or its unused capacity was changed by DeedEnd at %d", shownTokens(l), at)
		}
	}
}

func checkRead(t *testing.T, text string, want []string, wantOk bool) {
	t.Helper()
	got, is := impl.ReadRecipe(text)
	if !slices.Equal(got, want) || is != wantOk {
		t.Errorf("ReadRecipe(%q) = %q, %v, want %q, %v", shown(text), got, is, want, wantOk)
	}
}

func checkPlainRead(t *testing.T, text string) {
	t.Helper()
	l := plainTokens(text)
	if _, is := plainRecipe(l); !is {
		checkRead(t, text, nil, false)
	} else {
		checkRead(t, text, l, true)
	}
}

func checkPlainEnds(t *testing.T, l []string) {
	t.Helper()
	for at := int64(-2); at <= int64(len(l))+2; at++ {
		checkEnd(t, l, at, plainEnd(l, at))
	}
}

// checkAll compares all six functions with the plain ones.
func checkAll(t *testing.T, l []string) {
	t.Helper()
	checkFacts(t, l, plainFacts(l))
	checkPlainEnds(t, l)
	checkPlainRead(t, strings.Join(l, " "))
}

// checkQuick is checkAll without the unused capacity, for very many lists. It returns whether l is a recipe.
func checkQuick(t *testing.T, l []string) bool {
	t.Helper()
	want := plainFacts(l)
	if got := factsOf(l); got != want {
		t.Errorf("%q = %+v, want %+v", l, got, want)
	}
	for at := range int64(len(l)) {
		if got, want := impl.DeedEnd(l, at), plainEnd(l, at); got != want {
			t.Errorf("DeedEnd(%q, %d) = %d, want %d", l, at, got, want)
		}
	}
	checkPlainRead(t, strings.Join(l, " "))
	return want.is
}

// checkRecipe takes the text of a recipe, the names that occur in it, and the number of its statements.
func checkRecipe(t *testing.T, text, names string, deeds int64) {
	t.Helper()
	l := plainTokens(text)
	checkFacts(t, l, facts{true, text, names, deeds})
	checkRead(t, text, l, true)
	checkPlainEnds(t, l)
}

// checkDeed takes a statement and lets it stand alone, behind other tokens and before others.
func checkDeed(t *testing.T, l []string) {
	t.Helper()
	around := [][]string{nil, {"stop"}, {"]"}, {"["}, {"1"}, {"set", "a"}, {"cut", "b"}, {"if", "<", "a", "1", "["}, {"", "?", "+"}}
	for _, before := range around {
		for _, behind := range around {
			checkEnd(t, slices.Concat(before, l, behind), int64(len(before)), int64(len(before)+len(l)))
		}
	}
}

// checkNoDeed takes tokens that begin no statement, whatever stands before them.
func checkNoDeed(t *testing.T, l []string) {
	t.Helper()
	for _, before := range [][]string{nil, {"stop"}, {"set", "a"}, {"while", "<", "a", "1", "["}} {
		checkEnd(t, slices.Concat(before, l), int64(len(before)), -1)
	}
}

// checkNotRecipe takes tokens that are no recipe; they are none behind a statement either.
func checkNotRecipe(t *testing.T, l []string) {
	t.Helper()
	checkFacts(t, l, noRecipe)
	checkFacts(t, append([]string{"stop"}, l...), noRecipe)
	checkFacts(t, append([]string{"set", "b", "c"}, l...), noRecipe)
	checkPlainEnds(t, l)
}

// checkWhether takes tokens that are a statement, and so a recipe, or are no recipe and begin no statement.
func checkWhether(t *testing.T, l []string, is bool) {
	t.Helper()
	if is {
		checkDeed(t, l)
		checkFacts(t, l, plainFacts(l))
		checkRead(t, strings.Join(l, " "), l, true)
	} else {
		checkNoDeed(t, l)
		checkNotRecipe(t, l)
		checkRead(t, strings.Join(l, " "), nil, false)
	}
}

// example is the text of statements, with the names that occur in them and their number, those in brackets included.
type example struct {
	text, names string
	deeds       int64
}

func someDeeds() []example {
	return []example{
		{"set a 1", "a", 1},
		{"set a -2147483648", "a", 1},
		{"set abcdefgh @2", "abcdefgh", 1},
		{"set a b", "a b", 1},
		{"set b a", "a b", 1},
		{"set a a", "a", 1},
		{"set hay + oats * @1 -3", "hay oats", 1},
		{"set z - - z b / a z", "a b z", 1},
		{"set m + + z y + x w", "m w x y z", 1},
		{"cut a", "a", 1},
		{"cut abcdefgh", "abcdefgh", 1},
		{"stop", "", 1},
		{"if < a 1 [ ] [ ]", "a", 1},
		{"if = @0 1 [ stop ] [ ]", "", 2},
		{"if = 1 1 [ ] [ cut b ]", "b", 2},
		{"if & < d 1 = c b [ set a 1 ] [ cut e ]", "a b c d e", 3},
		{"if = b a [ set d 1 cut c stop ] [ stop set b 2 ]", "a b c d", 6},
		{"while < a 1 [ ]", "a", 1},
		{"while = 0 1 [ stop ]", "", 2},
		{"while & < c b < b a [ set a + a 1 cut d stop stop ]", "a b c d", 5},
		{"while < b 1 [ while < a 1 [ ] ]", "a b", 2},
		{"while = 1 1 [ if = 1 1 [ ] [ ] if = 2 2 [ ] [ ] ]", "", 3},
		{"if = 1 1 [ if = b 2 [ stop ] [ cut a ] ] [ while = 3 3 [ cut c ] ]", "a b c", 6},
		{"if = 1 1 [ while = 1 1 [ cut b ] stop while = 1 1 [ cut a ] ] [ ]", "a b", 6},
		{"while = 1 1 [ while = 1 1 [ while = 1 1 [ while = 1 1 [ while = 1 1 [ cut a ] ] ] ] ]", "a", 6},
	}
}

func someRecipes() []example {
	return append(someDeeds(), []example{
		{"", "", 0},
		{"stop stop", "", 2},
		{"cut a cut a", "a", 2},
		{"cut b cut a", "a b", 2},
		{"set a 1 cut a stop", "a", 3},
		{"stop set c b set b a", "a b c", 3},
		{"if = 1 1 [ ] [ ] while = 1 1 [ ] set a b", "a b", 3},
		{"while < oats @0 [ set oats + oats 1 cut seed ] if = hay 0 [ stop ] [ ]", "hay oats seed", 5},
		{"set z 1 while = y 1 [ cut x ] if = w 1 [ cut v ] [ cut u ] cut t", "t u v w x y z", 7},
		{"if = a a [ set a a ] [ cut a ] while = a a [ set a a ] cut a", "a", 6},
		{"set ab 1 cut b set aa 1 cut a set abcdefgh 1 cut abcdefg", "a aa ab abcdefg abcdefgh b", 6},
		{"stop stop set a 1 set a 1 if = 1 1 [ stop ] [ stop ] if = 1 1 [ ] [ ] while = 1 1 [ stop ]", "a", 10},
	}...)
}

func TestRecipeNumbers(t *testing.T) {
	if impl.MaxSigns != 120 || impl.MaxDepth != 5 {
		t.Error(impl.MaxSigns, impl.MaxDepth)
	}
}

func TestDeeds(t *testing.T) {
	for _, ex := range someDeeds() {
		checkRecipe(t, ex.text, ex.names, ex.deeds)
		checkDeed(t, plainTokens(ex.text))
	}
}

func TestRecipes(t *testing.T) {
	for _, ex := range someRecipes() {
		checkRecipe(t, ex.text, ex.names, ex.deeds)
	}
	checkRecipe(t, "stop cut a set b 1 while < b 9 [ ] if = b 9 [ ] [ ] stop", "a b", 6)
}

func TestTheEmptyRecipe(t *testing.T) {
	for _, l := range [][]string{nil, {}, make([]string, 0, 9)} {
		checkFacts(t, l, facts{is: true})
		for _, at := range []int64{-1, 0, 1} {
			checkEnd(t, l, at, -1)
		}
	}
	checkRead(t, "", nil, true)
	checkNotRecipe(t, []string{""})
	checkNotRecipe(t, []string{"", ""})
}

// The ends are those of the statements at the beginning, one after the other.
func TestDeedEndOfOneStatementAfterTheOther(t *testing.T) {
	for text, ends := range map[string][]int64{
		"stop stop stop":                                                                   {1, 2, 3},
		"set a 1 set b + 1 2 set c d cut e stop":                                           {3, 8, 11, 13, 14},
		"if < a 1 [ ] [ ] while < a 1 [ ] cut a":                                           {8, 14, 16},
		"while < oats @0 [ set oats + oats 1 cut seed ] if = hay 0 [ stop ] [ ]":           {13, 22},
		"if = 1 1 [ stop cut a ] [ set b 2 ] stop while = 1 1 [ while = 1 1 [ ] ] set a b": {14, 15, 27, 30},
	} {
		l := plainTokens(text)
		var got []int64
		for at := impl.DeedEnd(l, 0); at != -1; at = impl.DeedEnd(l, at) {
			got = append(got, at)
		}
		if !slices.Equal(got, ends) {
			t.Errorf("%q ends at %d, want %d", text, got, ends)
		}
	}
}

func TestDeedEndInsideAStatement(t *testing.T) {
	l := plainTokens("if < a 1 [ set b 2 cut c ] [ while = d 3 [ stop ] ] cut e")
	for at, token := range l {
		want := map[int]int64{0: 20, 5: 8, 8: 10, 12: 19, 17: 18, 20: 22}[at]
		if want == 0 {
			want = -1
		}
		if got := impl.DeedEnd(l, int64(at)); got != want {
			t.Errorf("DeedEnd(%q, %d) = %d at %q, want %d", l, at, got, token, want)
		}
	}
}

func TestDeedEndAtIndicesOutsideTheList(t *testing.T) {
	for _, text := range []string{"", "stop", "cut a", "set a 1", "while < a 1 [ ]", "]", "stop stop"} {
		l := plainTokens(text)
		count := int64(len(l))
		for _, at := range []int64{
			-1, -2, -count - 1, count, count + 1, count + 2, 1000, -1000, 1 << 31, 1 << 32, 1<<32 + 1, -1 << 31, -1 << 32, 1 << 62,
			math.MaxInt64, math.MaxInt64 - 1, math.MinInt64, math.MinInt64 + 1,
		} {
			if at < 0 || at >= count {
				checkEnd(t, l, at, -1)
			}
		}
	}
	checkEnd(t, []string{"cut", "a", "stop"}, 2, 3)
	checkEnd(t, []string{"cut", "a", "cut"}, 2, -1)
	checkEnd(t, []string{"stop"}, 0, 1)
	checkEnd(t, []string{"a"}, 0, -1)
}

func TestHeadsAreNames(t *testing.T) {
	for _, ex := range []example{
		{"set set set", "set", 1}, {"cut cut", "cut", 1}, {"cut cut cut cut", "cut", 2}, {"stop cut stop stop", "stop", 3},
		{"set if while", "if while", 1}, {"set stop + cut set", "cut set stop", 1}, {"set a set set b 1", "a b set", 2}, {"set a cut cut b", "a b cut", 2},
		{"if = if while [ cut stop ] [ set set cut ]", "cut if set stop while", 3}, {"while < while stop [ stop ]", "stop while", 2},
		{"if = if if [ ] [ ] if = if if [ if = if if [ ] [ ] ] [ ]", "if", 3}, {"while = while while [ while = while while [ cut while ] ]", "while", 3},
		{"cut if if = 1 1 [ ] [ ] cut while while = 1 1 [ ]", "if while", 4}, {"set stop stop stop", "stop", 2}, {"cut set set cut set", "cut set", 2},
	} {
		checkRecipe(t, ex.text, ex.names, ex.deeds)
	}
	for _, a := range heads() {
		checkRecipe(t, "cut "+a, a, 1)
		for _, b := range heads() {
			names := a + " " + b
			if a > b {
				names = b + " " + a
			}
			if a == b {
				names = a
			}
			for _, form := range []string{"set %s %s", "cut %s cut %s stop", "if < %s %s [ ] [ ]", "while = %s %s [ stop ]", "if = 1 1 [ cut %s ] [ cut %s ]"} {
				text := fmt.Sprintf(form, a, b)
				checkRecipe(t, text, names, plainFacts(plainTokens(text)).deeds)
			}
		}
	}
}

func TestNamesAreRisingAndEachIsThereOnce(t *testing.T) {
	source := rand.New(rand.NewSource(90))
	for range 200 {
		names := map[string]bool{}
		var l []string
		for range 24 {
			a, b, c := anyName(source), binNames[source.Intn(len(binNames))], someNames()[source.Intn(len(someNames()))]
			switch source.Intn(3) {
			case 0:
				l, names[a] = append(l, "cut", a), true
			case 1:
				l, names[a], names[b] = append(l, "set", a, b), true, true
			case 2:
				l, names[b], names[c] = append(l, "set", b, "+", c, b), true, true
			}
		}
		if got, want := impl.NamesIn(l), slices.Sorted(maps.Keys(names)); !slices.Equal(got, want) {
			t.Errorf("NamesIn(%q) = %q, want %q", l, got, want)
		}
	}
}

func TestStatementsThatAreCutShort(t *testing.T) {
	for _, ex := range someDeeds() {
		l := plainTokens(ex.text)
		for i := range l {
			checkNoDeed(t, l[:i])
			if i > 0 {
				checkNotRecipe(t, l[:i])
			}
		}
	}
	for _, ex := range someRecipes() {
		l := plainTokens(ex.text)
		for i := range l {
			checkAll(t, l[:i])
			checkAll(t, l[i:])
		}
	}
}

func TestExpressionsOfTheWrongKind(t *testing.T) {
	kinds := textsOfKinds()
	for kind, sums := range kinds {
		for _, sum := range sums {
			for form, takes := range map[string]int{"set a %s": 1, "if %s [ ] [ ]": 2, "if %s [ stop ] [ cut b ]": 2, "while %s [ ]": 2, "while %s [ set b 1 ]": 2} {
				l := plainTokens(fmt.Sprintf(form, sum))
				checkWhether(t, l, kind == takes)
			}
		}
	}
}

func TestNamesThatAreMissing(t *testing.T) {
	tokens := slices.Concat(badTokens(), notNames(), []string{"0", "1", "-1", "7", "@0", "@1", "@2", "+", "-", "*", "/", "<", "=", "&", "[", "]"})
	for _, token := range tokens {
		for _, l := range [][]string{{"set", token}, {"set", token, "1"}, {"set", token, "1", "2"}, {"set", token, "a"}, {"cut", token}, {"cut", token, "a"}, {"cut", token, "stop"}} {
			checkNoDeed(t, l)
			checkNotRecipe(t, l)
		}
	}
	for _, name := range someNames() {
		checkRecipe(t, "cut "+name, name, 1)
		checkRecipe(t, "set "+name+" 1", name, 1)
	}
}

func TestBracketsThatAreWrong(t *testing.T) {
	for _, text := range []string{
		"if < a 1 [ ]", "if < a 1 [ ] ]", "if < a 1 [ [ ]", "if < a 1 [ [ ] ]", "if < a 1 ] [ [ ]", "if < a 1 [ ] ] [", "if < a 1 ] [ ] [", "if < a 1 ] ] [ [",
		"if < a 1 ] ] [ ]", "if < a 1 [ ] stop [ ]", "if < a 1 stop [ ] [ ]", "if < a 1 [ stop [ ]", "if < a 1 stop ] [ ]", "if < a 1 [ ] stop ]", "if < a 1 [ ] [ stop",
		"if < a 1 [ ] [ stop [ ]", "if [ ] [ ]", "if < a 1", "if < a 1 [ ] cut a", "if < a 1 stop stop", "if < a 1 [ ] while < a 1 [ ]",
		"while < a 1 ]", "while < a 1 [", "while < a 1", "while < a 1 ] [", "while < a 1 [ [ ] ]", "while < a 1 [ [ ]", "while < a 1 stop", "while < a 1 stop ]", "while < a 1 [ stop",
		"while [ ]", "while < a 1 [ stop [ ]", "while < a 1 ( )", "while < a 1 [ )", "while < a 1 [] ]", "while < a 1 { }", "while < a 1 []", "while < a 1 [ a ]", "while < a 1 [ 1 ]",
		"while < a 1 [ ? ]", "while < a 1 [ cut ]", "while < a 1 [ set a ]", "while < a 1 [ while < a 1 ]", "while < a 1 [ if < a 1 [ ] ]", "while < a 1 [ while < a 1 [ ]",
		"[", "]", "[ ]", "] [", "[ stop ]", "[ [ ] ]", "] stop", "[ ] stop",
	} {
		l := plainTokens(text)
		checkNoDeed(t, l)
		checkNotRecipe(t, l)
		checkRead(t, text, nil, false)
	}
}

// Where a statement has an end, what stands behind it can still be wrong.
func TestBracketsThatAreTooMany(t *testing.T) {
	for _, ex := range someDeeds() {
		l := plainTokens(ex.text)
		for _, more := range [][]string{{"]"}, {"["}, {"[", "]"}, {"]", "["}, {"[", "stop", "]"}, {"stop", "]"}, {"]", "stop"}, {"]", "]"}} {
			checkNotRecipe(t, slices.Concat(l, more))
			checkNotRecipe(t, slices.Concat(more, l))
			checkEnd(t, slices.Concat(l, more), 0, int64(len(l)))
		}
		for i, token := range l {
			if token == "[" || token == "]" {
				checkNotRecipe(t, slices.Delete(slices.Clone(l), i, i+1))
				checkNotRecipe(t, slices.Insert(slices.Clone(l), i, token))
				exchanged := slices.Clone(l)
				exchanged[i] = map[string]string{"[": "]", "]": "["}[token]
				checkNotRecipe(t, exchanged)
			}
		}
	}
}

func TestTokensThatBeginNoStatement(t *testing.T) {
	tokens := slices.Concat(badTokens(), notNames(), binNames, []string{
		"a", "hay", "0", "1", "-3", "@0", "@1", "@2", "+", "-", "*", "/", "<", "=", "&", "[", "]", "Set", "SET", "sets", "se", "sett", "Cut", "cuts", "cu", "Stop", "STOP", "stops", "sto",
		"If", "IF", "iff", "i", "While", "whil", "whiles", "else", "end", "put", "let", "for", "set ", " set", "stop ", " stop", "stop\n", "stop stop", "cut a", "set a 1",
	})
	for _, token := range tokens {
		for _, behind := range []string{"", "stop", "a", "a 1", "1", "< a 1 [ ]", "< a 1 [ ] [ ]", "[ ]"} {
			l := append([]string{token}, plainTokens(behind)...)
			checkNoDeed(t, l)
			checkNotRecipe(t, l)
		}
		checkNotRecipe(t, []string{"while", "<", "a", "1", "[", token, "]", "]"})
		checkAll(t, []string{"stop", token})
		checkAll(t, []string{"while", "<", "a", "1", "[", "stop", token, "]"})
	}
	for _, text := range []string{"what", "a", "stops", "Stop", "set A 1", "else stop", "stop stop a"} {
		checkRead(t, text, nil, false)
	}
}

func TestEveryTokenOfAStatementCounts(t *testing.T) {
	for _, ex := range someDeeds() {
		l := plainTokens(ex.text)
		for i := range l {
			for _, bad := range badTokens() {
				if bad == "[" || bad == "]" {
					continue
				}
				other := slices.Clone(l)
				other[i] = bad
				if got := impl.DeedEnd(other, 0); got != -1 {
					t.Errorf("DeedEnd(%q, 0) = %d", other, got)
				}
				if got := factsOf(other); got != noRecipe {
					t.Errorf("%q = %+v", other, got)
				}
			}
			for _, token := range slices.Concat(goodTokens(), []string{"[", "]"}) {
				other := slices.Clone(l)
				other[i] = token
				checkQuick(t, other)
				checkQuick(t, slices.Insert(slices.Clone(l), i, token))
			}
			checkQuick(t, slices.Delete(slices.Clone(l), i, i+1))
		}
	}
}

func TestRecipesOfEveryByte(t *testing.T) {
	for b := range 256 {
		one := string([]byte{byte(b)})
		for _, l := range [][]string{
			{one}, {one, "a"}, {"cut", one}, {"cut", "a" + one}, {"set", one, "1"}, {"set", "a", one}, {"set", "a", "1" + one}, {"set", "a", "@" + one}, {"stop" + one}, {one + "stop"},
			{"while", "<", "a", one, "[", "]"}, {"while", one, "a", "1", "[", "]"}, {"while", "<", "a", "1", one, "]"}, {"while", "<", "a", "1", "[", one}, {"stop", one},
		} {
			checkAll(t, l)
		}
	}
}

// wrappers are an if whose first or whose second brackets are filled, and a while.
var wrappers = []string{"if < a 1 [ %s ] [ ]", "if < a 1 [ ] [ %s ]", "while < a 1 [ %s ]"}

// wrappedText takes the indices of the wrappers, that of the innermost first.
func wrappedText(inner string, kinds []int) string {
	for _, kind := range kinds {
		inner = strings.Replace(fmt.Sprintf(wrappers[kind], inner), "[  ]", "[ ]", 1)
	}
	return inner
}

func kindsOfWrappers(count int) [][]int {
	lists := [][]int{nil}
	for range count {
		var longer [][]int
		for _, l := range lists {
			for kind := range wrappers {
				longer = append(longer, append(slices.Clone(l), kind))
			}
		}
		lists = longer
	}
	return lists
}

func TestBracketsInBrackets(t *testing.T) {
	for depth := 1; depth <= 7; depth++ {
		for i, kinds := range kindsOfWrappers(depth) {
			inner := []string{"", "stop", "set a 1", "cut a stop"}[i%4]
			text := wrappedText(inner, kinds)
			l := plainTokens(text)
			count := int64(depth) + []int64{0, 1, 1, 2}[i%4]
			want, end := facts{true, text, "a", count}, int64(len(l))
			if depth > 5 {
				want, end = noRecipe, -1
			}
			if got := factsOf(l); got != want {
				t.Errorf("%q = %+v, want %+v", text, got, want)
			}
			if got := impl.DeedEnd(l, 0); got != end {
				t.Errorf("DeedEnd(%q, 0) = %d, want %d", text, got, end)
			}
			checkQuick(t, l)
		}
	}
}

func TestBracketsAreNotDeeperSideBySide(t *testing.T) {
	deep, deeper := wrappedText("stop", []int{2, 2, 2, 2, 2}), wrappedText("stop", []int{2, 2, 2, 2, 2, 2})
	checkRecipe(t, deep+" "+deep+" "+deep, "a", 18)
	checkNotRecipe(t, plainTokens(deep+" "+deeper))
	checkNotRecipe(t, plainTokens(deeper+" "+deep))
	four := wrappedText("stop", []int{2, 2, 2, 2})
	for text, is := range map[string]bool{
		"if = 1 1 [ " + four + " " + four + " ] [ " + four + " ]": true,
		"while = 1 1 [ " + four + " " + four + " stop ]":          true,
		"while = 1 1 [ " + four + " " + deep + " ]":               false,
		"while = 1 1 [ " + deep + " " + four + " ]":               false,
		"if = 1 1 [ " + four + " ] [ " + deep + " ]":              false,
		"if = 1 1 [ " + deep + " ] [ " + four + " ]":              false,
		"if = 1 1 [ " + deep + " ] [ ]":                           false,
		"if = 1 1 [ ] [ " + deep + " ]":                           false,
	} {
		l := plainTokens(text)
		checkWhether(t, l, is)
	}
}

// What is deeper than allowed as a part of a statement is a statement by itself if it is not too deep.
func TestDeedEndCountsBracketsFromItsIndex(t *testing.T) {
	l := plainTokens(wrappedText("stop", []int{2, 2, 2, 2, 2, 2, 2}))
	for i, want := range []int64{-1, -1, 41, 40, 39, 38, 37, 36} {
		checkEnd(t, l, int64(5*i), want)
	}
}

// deepSums returns expressions of this kind that are that deep, from 2 on.
func deepSums(kind, depth int) [][]string {
	one, count := []string{"1"}, depth-1
	if kind == 1 {
		return [][]string{deepOnTheLeft("+", count, one), deepOnTheRight("*", count, []string{"b"}), deepInTurns("-", count, one), deepOnBothSides("/", count, []string{"@0"})}
	}
	same := []string{"=", "b", "1"}
	return [][]string{
		deepOnTheLeft("&", count-1, same), deepOnTheRight("&", count-1, same), deepInTurns("&", count-1, same),
		slices.Concat([]string{"<"}, deepOnTheLeft("+", count-1, one), one), slices.Concat([]string{"="}, one, deepOnTheRight("-", count-1, one)),
	}
}

func TestExpressionsThatAreDeep(t *testing.T) {
	for depth := 2; depth <= 7; depth++ {
		for form, kind := range map[string]int{
			"set a %s": 1, "if %s [ stop ] [ cut a ]": 2, "while %s [ stop ]": 2, "stop set a %s": 1, "while = 1 1 [ set a %s ]": 1, "while = 1 1 [ while %s [ ] ]": 2,
			"if = 1 1 [ set a %s ] [ ]": 1, "if = 1 1 [ ] [ set a %s ]": 1, "if = 1 1 [ ] [ if %s [ ] [ ] ]": 2, "stop while %s [ ] stop": 2,
		} {
			for _, sum := range deepSums(kind, depth) {
				if got := impl.DepthOf(sum, 0); got != int64(depth) {
					t.Fatalf("%q is %d deep, want %d", sum, got, depth)
				}
				l := plainTokens(fmt.Sprintf(form, strings.Join(sum, " ")))
				if depth <= 5 {
					checkFacts(t, l, plainFacts(l))
				} else {
					checkNotRecipe(t, l)
				}
				if is := impl.RecipeOk(l); is != (depth <= 5) {
					t.Errorf("RecipeOk(%q) = %v with an expression that is %d deep", l, is, depth)
				}
				checkAll(t, l)
			}
		}
	}
}

// The brackets do not make an expression deeper, nor an expression the brackets.
func TestDeepExpressionsInDeepBrackets(t *testing.T) {
	sums := map[int]string{5: "+ 1 + 1 + 1 + 1 1", 6: "+ 1 + 1 + 1 + 1 + 1 1"}
	for depth, sum := range sums {
		for count := 4; count <= 6; count++ {
			text := wrappedText("set a "+sum, slices.Repeat([]int{2}, count))
			if got, want := impl.RecipeOk(plainTokens(text)), depth <= 5 && count <= 5; got != want {
				t.Errorf("RecipeOk(%q) = %v", text, got)
			}
			checkAll(t, plainTokens(text))
		}
	}
}

// listsOf returns lists of that many tokens that are recipes but for their number.
func listsOf(t *testing.T, count int) [][]string {
	t.Helper()
	stops := slices.Repeat([]string{"stop"}, count)
	lists := [][]string{
		stops,
		slices.Concat(plainTokens("while < a 1 ["), stops[:count-6], plainTokens("]")),
		slices.Concat(plainTokens("if < a 1 ["), stops[:count-8], plainTokens("] [ ]")),
		slices.Concat(plainTokens("if < a 1 [ ] ["), stops[:count-8], plainTokens("]")),
		slices.Concat(plainTokens("set abcdefgh -2147483648"), slices.Repeat(plainTokens("cut zzzzzzzz"), (count-3)/2), stops[:(count-3)%2]),
		slices.Concat(slices.Repeat(plainTokens("set abcdefgh -2147483648"), count/3), stops[:count%3]),
	}
	for _, l := range lists {
		if len(l) != count {
			t.Fatalf("%d tokens, want %d", len(l), count)
		}
	}
	return lists
}

func TestTheNumberOfTokens(t *testing.T) {
	for _, l := range slices.Concat(listsOf(t, 118), listsOf(t, 119), listsOf(t, 120)) {
		if !impl.RecipeOk(l) || impl.DeedEnd(l, 0) == -1 {
			t.Errorf("%d tokens: %v, %d", len(l), impl.RecipeOk(l), impl.DeedEnd(l, 0))
		}
		checkAll(t, l)
		checkRead(t, strings.Join(l, " "), l, true)
	}
	for _, l := range slices.Concat(listsOf(t, 121), listsOf(t, 122), listsOf(t, 240), listsOf(t, 3000)) {
		checkFacts(t, l, noRecipe)
		checkRead(t, strings.Join(l, " "), nil, false)
		checkEnd(t, l, 0, plainEnd(l, 0))
		if impl.DeedEnd(l, 0) == -1 {
			t.Errorf("%d tokens: no statement at 0", len(l))
		}
	}
	checkFacts(t, listsOf(t, 120)[0], facts{true, strings.Repeat(" stop", 120)[1:], "", 120})
}

func TestDeedEndOfManyTokens(t *testing.T) {
	for _, count := range []int{115, 116, 500, 5000} {
		stops := slices.Repeat([]string{"stop"}, count)
		end := int64(count)
		checkEnd(t, slices.Concat(plainTokens("while < a 1 ["), stops, plainTokens("]")), 0, end+6)
		checkEnd(t, slices.Concat(plainTokens("if < a 1 ["), stops, plainTokens("] ["), stops, plainTokens("] stop")), 0, 2*end+8)
		checkEnd(t, slices.Concat(plainTokens("stop while < a 1 [ while < a 1 ["), stops, plainTokens("]"), stops, plainTokens("] stop")), 1, 2*end+13)
		checkEnd(t, slices.Concat(plainTokens("while < a 1 ["), stops), 0, -1)
		checkEnd(t, slices.Concat(plainTokens("while < a 1 ["), stops, plainTokens("a ]")), 0, -1)
		checkEnd(t, slices.Concat(stops, plainTokens("cut a")), end, end+2)
		checkEnd(t, slices.Concat(plainTokens("set a"), stops, plainTokens("1")), 0, 3)
	}
}

func TestTextsWithBlanks(t *testing.T) {
	for _, ex := range someRecipes() {
		if ex.text == "" {
			continue
		}
		for _, text := range []string{" " + ex.text, ex.text + " ", " " + ex.text + " ", "  " + ex.text, ex.text + "  "} {
			checkRead(t, text, nil, false)
		}
		for i := range ex.text {
			if ex.text[i] == ' ' {
				checkRead(t, ex.text[:i]+" "+ex.text[i:], nil, false)
				checkRead(t, ex.text[:i]+"  "+ex.text[i:], nil, false)
			}
			checkPlainRead(t, ex.text[:i]+" "+ex.text[i:])
			checkPlainRead(t, ex.text[:i]+ex.text[i+1:])
		}
	}
	for _, text := range []string{" ", "  ", "   ", strings.Repeat(" ", 119), strings.Repeat(" ", 120), strings.Repeat(" ", 10000)} {
		checkRead(t, text, nil, false)
	}
}

func TestTextsWithOtherCharactersThatAreNotSeen(t *testing.T) {
	unseen := []string{"\t", "\n", "\r", "\r\n", "\v", "\f", "\x00", "\x01", "\x1f", "\x7f", "\u00a0", "\u200b", "\u2003", "\ufeff", "\xa0", "\x85"}
	for _, c := range unseen {
		checkRead(t, c, nil, false)
		for _, ex := range someRecipes() {
			for i := range len(ex.text) + 1 {
				checkRead(t, ex.text[:i]+c+ex.text[i:], nil, false)
				if i < len(ex.text) && ex.text[i] == ' ' {
					checkRead(t, ex.text[:i]+c+ex.text[i+1:], nil, false)
				}
			}
		}
	}
}

func TestTextsWithNumbers(t *testing.T) {
	forms := []string{"set a %s", "set a + 1 %s", "set a + %s 1", "if < %s 1 [ ] [ ]", "if < 1 %s [ ] [ ]", "while = %s 1 [ ]", "while = 1 %s [ stop ]", "stop set a %s stop"}
	for _, form := range forms {
		for _, n := range edgeWords() {
			text := fmt.Sprintf(form, fmt.Sprint(n))
			checkRead(t, text, plainTokens(text), true)
		}
		for _, n := range notWords() {
			checkRead(t, fmt.Sprintf(form, fmt.Sprint(n)), nil, false)
		}
		for _, bad := range []string{"00", "01", "007", "-0", "-01", "+1", "+0", "--1", "1.0", "1e3", "0x1", "1_0", "1,0", "0b1", "12345678901", "-12345678901", "99999999999999999999", "\u0663", "\uff11"} {
			checkRead(t, fmt.Sprintf(form, bad), nil, false)
		}
		for _, bad := range badTokens() {
			checkPlainRead(t, fmt.Sprintf(form, bad))
		}
	}
}

func TestFunctionsRejectWhatIsNoRecipe(t *testing.T) {
	deep := slices.Repeat([]int{1}, 6)
	for _, text := range []string{
		"set", "set a", "set 1 1", "set a < 1 2", "set a & 1 2", "set a +", "cut", "cut 1", "cut @0", "cut +", "if", "if a [ ] [ ]", "if < a 1", "if < a 1 [ ]", "if & 1 2 [ ] [ ]", "while 1 [ ]",
		"while < a 1 [", "while < a 1 ]", "stop ]", "] stop", "[ ]", "a", "1", "what", "cut a cut", "cut a b", "cut a stop 1", "set a 1 2", wrappedText("", deep), "set a + 1 + 1 + 1 + 1 + 1 1",
		strings.Repeat("stop ", 120) + "stop", strings.Repeat("cut a ", 60) + "stop",
	} {
		l := plainTokens(text)
		if impl.RecipeOk(l) || impl.ShowRecipe(l) != "" || impl.NamesIn(l) != nil || impl.DeedsIn(l) != -1 {
			t.Errorf("%q = %+v", text, factsOf(l))
		}
		if got, is := impl.ReadRecipe(text); got != nil || is {
			t.Errorf("ReadRecipe(%q) = %q, %v", text, got, is)
		}
		checkNotRecipe(t, l)
	}
	// Tokens with blanks are none, though the same text without them would be read.
	for _, l := range [][]string{{"cut a"}, {"stop stop"}, {"set a", "1"}, {"set", "a 1"}, {"while", "< a 1", "[", "]"}, {"cut ", "a"}, {"stop", " stop"}} {
		checkNotRecipe(t, l)
	}
}

func anyStep(source *rand.Rand, open int, depth int64) step {
	form := source.Intn(7)
	if open == 0 {
		form %= 3
	}
	name := slices.Concat(binNames, heads())[source.Intn(len(binNames)+len(forms))]
	number, truth := anyTree(source, 1, 1+source.Int63n(depth)), anyTree(source, 2, 2+source.Int63n(depth-1))
	switch form {
	case 0:
		return step{head: "set", name: name, sums: []tree{number}}
	case 1:
		return step{head: "cut", name: name}
	case 2:
		return step{head: "stop"}
	case 3, 4:
		return step{head: "if", sums: []tree{truth}, blocks: [][]step{anySteps(source, open-1, depth), anySteps(source, open-1, depth)}}
	}
	return step{head: "while", sums: []tree{truth}, blocks: [][]step{anySteps(source, open-1, depth)}}
}

func anySteps(source *rand.Rand, open int, depth int64) []step {
	var made []step
	for range source.Intn(3) {
		made = append(made, anyStep(source, open, depth))
	}
	return made
}

// anyRecipe returns the statements of a recipe of at most that many tokens.
func anyRecipe(source *rand.Rand, most int) []step {
	var made []step
	count := 0
	for range source.Intn(9) {
		s := anyStep(source, 1+source.Intn(5), 2+source.Int63n(4))
		if size := len(s.tokens()); count+size <= most {
			made, count = append(made, s), count+size
		}
	}
	return made
}

func TestAnyRecipes(t *testing.T) {
	source := rand.New(rand.NewSource(91))
	counts := map[int]int{}
	for range 1500 {
		steps := anyRecipe(source, 120)
		l := tokensOf(steps)
		want := plainFacts(l)
		if !want.is {
			t.Fatalf("%q is no recipe", l)
		}
		counts[len(l)/30]++
		checkFacts(t, l, want)
		checkRead(t, want.text, l, true)
		at := int64(0)
		for _, s := range steps {
			end := at + int64(len(s.tokens()))
			if got := impl.DeedEnd(l, at); got != end {
				t.Errorf("DeedEnd(%q, %d) = %d, want %d", l, at, got, end)
			}
			at = end
		}
	}
	for size := range 4 {
		if counts[size] < 50 {
			t.Errorf("only %d recipes have from %d tokens on", counts[size], 30*size)
		}
	}
}

// Some of the changed recipes are recipes, too.
func TestAnyRecipesThatAreChanged(t *testing.T) {
	source := rand.New(rand.NewSource(92))
	tokens := slices.Concat(goodTokens(), heads(), []string{"[", "]", "[", "]", "?", "", "< a"})
	counts := map[bool]int{}
	for range 3000 {
		l := tokensOf(anyRecipe(source, 118))
		for range 1 + source.Intn(2) {
			at, token := source.Intn(len(l)+1), tokens[source.Intn(len(tokens))]
			switch {
			case at == len(l) || source.Intn(4) == 0:
				l = slices.Insert(l, at, token)
			case source.Intn(3) == 0:
				l = slices.Delete(l, at, at+1)
			case source.Intn(2) == 0:
				other := source.Intn(len(l))
				l[at], l[other] = l[other], l[at]
			default:
				l[at] = token
			}
		}
		counts[checkQuick(t, l)]++
	}
	if counts[true] < 200 || counts[false] < 200 {
		t.Errorf("recipes and others: %v", counts)
	}
}

// Their brackets and expressions can be one or two too deep.
func TestAnyDeepStatements(t *testing.T) {
	source := rand.New(rand.NewSource(93))
	counts := map[bool]int{}
	for range 1000 {
		var inner []step
		for range 3 + source.Intn(5) {
			s := step{head: "while", sums: []tree{anyTree(source, 2, 3)}, blocks: [][]step{inner}}
			if source.Intn(2) == 0 {
				s = step{head: "if", sums: []tree{anyTree(source, 2, 2)}, blocks: [][]step{inner, nil}}
				at := source.Intn(2)
				s.blocks[0], s.blocks[1] = s.blocks[at], s.blocks[1-at]
			}
			inner = append(anySteps(source, 0, 6), s)
		}
		counts[checkQuick(t, tokensOf(inner))]++
	}
	if counts[true] < 100 || counts[false] < 100 {
		t.Errorf("recipes and others: %v", counts)
	}
}

// Each list of up to 5 of these parts is checked.
func TestAllShortRecipes(t *testing.T) {
	parts := [][]string{{"set"}, {"cut"}, {"stop"}, {"if"}, {"while"}, {"a"}, {"1"}, {"<", "a", "1"}, {"["}, {"]"}, {"[", "]"}}
	lists, recipes := [][]string{nil}, 0
	for range 5 {
		var longer [][]string
		for _, l := range lists {
			for _, part := range parts {
				longer = append(longer, slices.Concat(l, part))
			}
		}
		lists = longer
		for _, l := range lists {
			want := plainFacts(l)
			if got := factsOf(l); got != want {
				t.Errorf("%q = %+v, want %+v", l, got, want)
			}
			if got, want := impl.DeedEnd(l, 0), plainEnd(l, 0); got != want {
				t.Errorf("DeedEnd(%q, 0) = %d, want %d", l, got, want)
			}
			if want.is {
				recipes++
			}
		}
	}
	if recipes < 300 {
		t.Errorf("only %d of the lists are recipes", recipes)
	}
}

func checkThereAndBackAgain(t *testing.T, l []string) {
	t.Helper()
	text := impl.ShowRecipe(l)
	got, is := impl.ReadRecipe(text)
	if !slices.Equal(got, l) || !is {
		t.Errorf("ReadRecipe(%q) = %q, %v, want %q", text, got, is, l)
	}
	if back := impl.ShowRecipe(got); back != text || text != strings.Join(l, " ") {
		t.Errorf("ShowRecipe(%q) = %q, and %q when it is read", l, text, back)
	}
}

func TestReadRecipeOfShowRecipeIsTheRecipe(t *testing.T) {
	for _, ex := range someRecipes() {
		checkThereAndBackAgain(t, plainTokens(ex.text))
	}
	for _, l := range slices.Concat(listsOf(t, 119), listsOf(t, 120)) {
		checkThereAndBackAgain(t, l)
	}
	for _, kinds := range kindsOfWrappers(5) {
		checkThereAndBackAgain(t, plainTokens(wrappedText("set a + 1 + 1 + 1 + 1 1", kinds)))
	}
	source := rand.New(rand.NewSource(94))
	for range 2000 {
		checkThereAndBackAgain(t, tokensOf(anyRecipe(source, 120)))
	}
}

// checkJoined takes two recipes that have together at most MaxSigns tokens.
func checkJoined(t *testing.T, a, b []string) {
	t.Helper()
	both, first, second := slices.Concat(a, b), factsOf(a), factsOf(b)
	names := slices.Concat(impl.NamesIn(a), impl.NamesIn(b))
	slices.Sort(names)
	want := facts{true, first.text + " " + second.text, strings.Join(slices.Compact(names), " "), first.deeds + second.deeds}
	if len(a) == 0 || len(b) == 0 {
		want.text = first.text + second.text
	}
	if got := factsOf(both); got != want || !first.is || !second.is {
		t.Errorf("%q and %q = %+v, want %+v", a, b, got, want)
	}
	checkRead(t, want.text, both, true)
	for at := range both {
		var end int64
		if at < len(a) {
			end = impl.DeedEnd(a, int64(at))
		} else if end = impl.DeedEnd(b, int64(at-len(a))); end != -1 {
			end += int64(len(a))
		}
		// A name in the first recipe can also begin a statement that goes on in the second one.
		if got := impl.DeedEnd(both, int64(at)); got != end && (end != -1 || got <= int64(len(a))) {
			t.Errorf("DeedEnd(%q, %d) = %d, want %d", both, at, got, end)
		}
	}
}

func TestTwoRecipesOneAfterTheOtherFormARecipe(t *testing.T) {
	for _, a := range someRecipes() {
		for _, b := range someRecipes() {
			if len(plainTokens(a.text))+len(plainTokens(b.text)) <= 120 {
				checkJoined(t, plainTokens(a.text), plainTokens(b.text))
			}
		}
	}
	source := rand.New(rand.NewSource(95))
	for range 1000 {
		a := tokensOf(anyRecipe(source, 100))
		checkJoined(t, a, tokensOf(anyRecipe(source, 120-len(a))))
	}
	for count := range 121 {
		checkJoined(t, slices.Repeat([]string{"stop"}, count), slices.Repeat([]string{"stop"}, 120-count))
	}
}

func TestTwoRecipesWithTooManyTokensFormNone(t *testing.T) {
	for count := 1; count <= 120; count++ {
		a, b := slices.Repeat([]string{"stop"}, count), slices.Repeat([]string{"stop"}, 121-count)
		if got := factsOf(slices.Concat(a, b)); got != noRecipe || !impl.RecipeOk(a) || !impl.RecipeOk(b) {
			t.Errorf("%d and %d tokens = %+v", len(a), len(b), got)
		}
	}
}

// A recipe is divided into two where a statement of it ends that is in no brackets, and nowhere else.
func TestARecipeIsDividedBetweenItsStatements(t *testing.T) {
	source := rand.New(rand.NewSource(96))
	for range 300 {
		steps := anyRecipe(source, 120)
		l, ends, at := tokensOf(steps), map[int]bool{0: true}, 0
		for _, s := range steps {
			at += len(s.tokens())
			ends[at] = true
		}
		for i := range len(l) + 1 {
			if got := impl.RecipeOk(l[:i]); got != ends[i] {
				t.Errorf("RecipeOk(%q) = %v, the first %d tokens of %q", l[:i], got, i, l)
			}
			if ends[i] && !impl.RecipeOk(l[i:]) {
				t.Errorf("%q is no recipe", l[i:])
			}
		}
	}
}

func overwriteTokens(l []string) {
	for i := range l[:cap(l)] {
		l[:cap(l)][i] = "?"
	}
}

func TestResultsOfRecipesAreNewMemory(t *testing.T) {
	for _, ex := range someRecipes() {
		l := plainTokens(ex.text)
		names := impl.NamesIn(l)
		overwriteTokens(names)
		if got := strings.Join(impl.NamesIn(l), " "); got != ex.names || strings.Join(l, " ") != ex.text {
			t.Errorf("%q has the names %q after a result was overwritten, and is now %q", ex.text, got, l)
		}
		read, _ := impl.ReadRecipe(ex.text)
		overwriteTokens(read)
		checkRead(t, ex.text, l, true)
	}
}

// deepDeeds nests a statement, whose part before its inner brackets and whose part behind them are given, that often.
func deepDeeds(count int, before, behind string) []string {
	return slices.Concat(slices.Repeat(plainTokens(before), count), slices.Repeat(plainTokens(behind), count))
}

func TestVeryDeepBrackets(t *testing.T) {
	for _, count := range []int{6, 100, 500, 1000} {
		for before, behind := range map[string]string{"while < a 1 [": "]", "if < a 1 [": "] [ ]", "if < a 1 [ ] [": "]", "while & < a 1 = b 2 [ stop": "cut a ]"} {
			l := deepDeeds(count, before, behind)
			checkFacts(t, l, noRecipe)
			checkRead(t, strings.Join(l, " "), nil, false)
			first, second := len(plainTokens(before)), len(plainTokens(behind))
			for inner := 1; inner <= count; inner++ {
				end := int64(-1)
				if inner <= 5 {
					end = int64(first*count + second*inner)
				}
				if at := int64(first * (count - inner)); impl.DeedEnd(l, at) != end {
					t.Errorf("DeedEnd(%s, %d) = %d, want %d", shownTokens(l), at, impl.DeedEnd(l, at), end)
				}
			}
		}
	}
}

func TestLongListsThatAreNoRecipes(t *testing.T) {
	for _, text := range []string{
		"[", "]", "[ ]", "] [", "set", "cut", "if", "while", "set a", "if <", "while < a", "while < a 1", "while < a 1 [", "while < a 1 ]", "if < a 1 [ ]", "if < a 1 [ ] [",
		"+", "+ 1", "1", "a", "@0", "?", "", "set +", "while &", "while = 1", "set a < 1 2", "while 1 [ ]", "stop [", "stop ]", "cut stop ]",
	} {
		part := []string{""}
		if text != "" {
			part = plainTokens(text)
		}
		for _, count := range []int{50, 121, 1000, 4000} {
			l := slices.Repeat(part, count)
			checkQuickEnds(t, l, 40)
			if got, want := factsOf(l), plainFacts(l); got != want {
				t.Errorf("%s = %+v, want %+v", shownTokens(l), got, want)
			}
			checkPlainRead(t, strings.Join(l, " "))
		}
	}
}

// checkQuickEnds checks that many indices at the beginning and at the end of a list.
func checkQuickEnds(t *testing.T, l []string, count int) {
	t.Helper()
	for at := range l {
		if at < count || at >= len(l)-count {
			if got, want := impl.DeedEnd(l, int64(at)), plainEnd(l, int64(at)); got != want {
				t.Errorf("DeedEnd(%s, %d) = %d, want %d", shownTokens(l), at, got, want)
			}
		}
	}
}

// With a small stack, a function that nests its calls as deep as the brackets or the operators would need more than it gets.
func TestRecipesOfVeryManyTokens(t *testing.T) {
	defer debug.SetMaxStack(debug.SetMaxStack(8 << 20))
	count := 200000
	for before, behind := range map[string]string{"while < a 1 [": "]", "if < a 1 [": "] [ ]", "if < a 1 [ ] [": "]", "[": "]", "while": "", "set a + 1 [": "1", "while < +": "1", "stop": "stop ]"} {
		l := deepDeeds(count, before, behind)
		if got := factsOf(l); got != noRecipe {
			t.Errorf("%s = %+v", shownTokens(l), got)
		}
		want := int64(-1)
		if before == "stop" {
			want = 1
		}
		if got := impl.DeedEnd(l, 0); got != want {
			t.Errorf("DeedEnd(%s, 0) = %d, want %d", shownTokens(l), got, want)
		}
		checkRead(t, strings.Join(l, " "), nil, false)
	}
	stops := slices.Repeat([]string{"stop"}, count)
	checkEnd(t, slices.Concat(plainTokens("while < a 1 ["), stops, plainTokens("]")), 0, int64(count)+6)
	checkEnd(t, slices.Concat(plainTokens("set a"), deepOnTheLeft("+", count, []string{"1"})), 0, -1)
	checkEnd(t, slices.Concat(plainTokens("while"), deepOnTheRight("&", count, plainTokens("= 1 1")), plainTokens("[ ]")), 0, -1)
}
