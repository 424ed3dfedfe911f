package tests

import (
	"math"
	"math/big"
	"math/rand"
	"strconv"
	"strings"
	"testing"

	"loop.example/g00526/impl"
)

const (
	leastWord    = -2147483648
	greatestWord = 2147483647
)

// edgeWords returns the words at which an operation is most likely to be wrong: both ends of the range, 0, and the roots at which products wrap, each with its neighbours.
func edgeWords() []int64 {
	return []int64{
		leastWord, leastWord + 1, leastWord + 2, -1073741825, -1073741824, -65537, -65536, -65535, -46341, -46340,
		-10, -7, -3, -2, -1, 0, 1, 2, 3, 7, 10,
		46340, 46341, 65535, 65536, 65537, 1073741823, 1073741824, greatestWord - 2, greatestWord - 1, greatestWord,
	}
}

func notWords() []int64 {
	return []int64{
		leastWord - 1, greatestWord + 1, leastWord - 2, greatestWord + 2, -4294967296, 4294967295, 4294967296, 4294967297,
		1 << 40, -1 << 40, math.MinInt64, math.MinInt64 + 1, math.MaxInt64 - 1, math.MaxInt64,
	}
}

// wrapped computes in numbers without a limit, so that no wraparound of the language can hide a wrong one.
func wrapped(n *big.Int) int64 {
	size := new(big.Int).Lsh(big.NewInt(1), 32)
	rest := new(big.Int).Mod(n, size).Int64()
	if rest > greatestWord {
		rest -= size.Int64()
	}
	return rest
}

func oneIf(holds bool) int64 {
	if holds {
		return 1
	}
	return 0
}

func wantedOfDid(op, a, b int64) (int64, bool) {
	x, y := big.NewInt(a), big.NewInt(b)
	switch op {
	case impl.OpAdd:
		return wrapped(new(big.Int).Add(x, y)), true
	case impl.OpLess:
		return wrapped(new(big.Int).Sub(x, y)), true
	case impl.OpTimes:
		return wrapped(new(big.Int).Mul(x, y)), true
	case impl.OpBy:
		if b == 0 {
			return 0, false
		}
		return wrapped(new(big.Int).Quo(x, y)), true
	case impl.OpBelow:
		return oneIf(x.Cmp(y) < 0), true
	case impl.OpSame:
		return oneIf(x.Cmp(y) == 0), true
	case impl.OpBoth:
		return oneIf(x.Sign() != 0 && y.Sign() != 0), true
	}
	return 0, false
}

func checkDid(t *testing.T, op, a, b, want int64, wantOk bool) {
	t.Helper()
	if got, ok := impl.Did(op, a, b); got != want || ok != wantOk {
		t.Errorf("Did(%d, %d, %d) = %d, %v, want %d, %v", op, a, b, got, ok, want, wantOk)
	}
}

func TestOpNumbers(t *testing.T) {
	got := [7]int64{impl.OpAdd, impl.OpLess, impl.OpTimes, impl.OpBy, impl.OpBelow, impl.OpSame, impl.OpBoth}
	if got != [7]int64{1, 2, 3, 4, 5, 6, 7} {
		t.Error(got)
	}
}

func TestWordOk(t *testing.T) {
	for _, n := range edgeWords() {
		if !impl.WordOk(n) {
			t.Errorf("WordOk(%d) = false", n)
		}
	}
	for _, n := range notWords() {
		if impl.WordOk(n) {
			t.Errorf("WordOk(%d) = true", n)
		}
	}
}

func TestWrapExamples(t *testing.T) {
	for _, c := range []struct{ n, want int64 }{
		{0, 0},
		{5, 5},
		{-5, -5},
		{greatestWord, greatestWord},
		{leastWord, leastWord},
		{greatestWord + 1, leastWord},
		{greatestWord + 2, leastWord + 1},
		{leastWord - 1, greatestWord},
		{leastWord - 2, greatestWord - 1},
		{4294967295, -1},
		{4294967296, 0},
		{4294967297, 1},
		{-4294967295, 1},
		{-4294967296, 0},
		{-4294967297, -1},
		{math.MaxInt64, -1},
		{math.MinInt64, 0},
		{math.MinInt64 + 1, 1},
	} {
		if got := impl.Wrap(c.n); got != c.want {
			t.Errorf("Wrap(%d) = %d, want %d", c.n, got, c.want)
		}
	}
}

func TestWrapOfAnyNumber(t *testing.T) {
	source := rand.New(rand.NewSource(1))
	for range 20000 {
		n := int64(source.Uint64()) >> source.Intn(64)
		if got, want := impl.Wrap(n), wrapped(big.NewInt(n)); got != want {
			t.Fatalf("Wrap(%d) = %d, want %d", n, got, want)
		}
		if got, want := impl.WordOk(n), n >= leastWord && n <= greatestWord; got != want {
			t.Fatalf("WordOk(%d) = %v, want %v", n, got, want)
		}
	}
}

func TestDidExamples(t *testing.T) {
	for _, c := range []struct{ op, a, b, want int64 }{
		{impl.OpAdd, 2, 3, 5},
		{impl.OpAdd, -2, 2, 0},
		{impl.OpLess, 2, 3, -1},
		{impl.OpLess, 3, 2, 1},
		{impl.OpTimes, 6, -7, -42},
		{impl.OpTimes, 0, -7, 0},
		{impl.OpBy, 42, 6, 7},
		{impl.OpBy, 0, 6, 0},
		{impl.OpBelow, 2, 3, 1},
		{impl.OpBelow, 3, 3, 0},
		{impl.OpBelow, 3, 2, 0},
		{impl.OpBelow, -1, 0, 1},
		{impl.OpBelow, leastWord, greatestWord, 1},
		{impl.OpBelow, greatestWord, leastWord, 0},
		{impl.OpSame, 3, 3, 1},
		{impl.OpSame, 3, -3, 0},
		{impl.OpSame, leastWord, greatestWord, 0},
		{impl.OpBoth, 1, 1, 1},
		{impl.OpBoth, -2, 4, 1},
		{impl.OpBoth, 0, 1, 0},
		{impl.OpBoth, 1, 0, 0},
		{impl.OpBoth, 0, 0, 0},
	} {
		checkDid(t, c.op, c.a, c.b, c.want, true)
	}
}

func TestDidWraps(t *testing.T) {
	for _, c := range []struct{ op, a, b, want int64 }{
		{impl.OpAdd, greatestWord, 1, leastWord},
		{impl.OpAdd, greatestWord, greatestWord, -2},
		{impl.OpAdd, leastWord, -1, greatestWord},
		{impl.OpAdd, leastWord, leastWord, 0},
		{impl.OpAdd, leastWord, greatestWord, -1},
		{impl.OpLess, leastWord, 1, greatestWord},
		{impl.OpLess, greatestWord, -1, leastWord},
		{impl.OpLess, 0, leastWord, leastWord},
		{impl.OpLess, greatestWord, leastWord, -1},
		{impl.OpTimes, 65536, 65536, 0},
		{impl.OpTimes, 46341, 46341, -2147479015},
		{impl.OpTimes, leastWord, -1, leastWord},
		{impl.OpTimes, leastWord, leastWord, 0},
		{impl.OpTimes, greatestWord, greatestWord, 1},
		{impl.OpTimes, greatestWord, 2, -2},
		{impl.OpBy, leastWord, -1, leastWord},
	} {
		checkDid(t, c.op, c.a, c.b, c.want, true)
	}
}

func TestDidDivides(t *testing.T) {
	for _, c := range []struct{ a, b, want int64 }{
		{7, 2, 3},
		{-7, 2, -3},
		{7, -2, -3},
		{-7, -2, 3},
		{1, 2, 0},
		{-1, 2, 0},
		{greatestWord, -1, -greatestWord},
		{leastWord, 1, leastWord},
		{leastWord, 2, -1073741824},
		{leastWord, greatestWord, -1},
		{greatestWord, leastWord, 0},
	} {
		checkDid(t, impl.OpBy, c.a, c.b, c.want, true)
	}
	for _, a := range edgeWords() {
		checkDid(t, impl.OpBy, a, 0, 0, false)
	}
}

func TestDidOfEdgeWords(t *testing.T) {
	for op := int64(1); op <= 7; op++ {
		for _, a := range edgeWords() {
			for _, b := range edgeWords() {
				want, ok := wantedOfDid(op, a, b)
				checkDid(t, op, a, b, want, ok)
			}
		}
	}
}

func TestDidOfAnyWords(t *testing.T) {
	source := rand.New(rand.NewSource(2))
	for range 20000 {
		op := source.Int63n(7) + 1
		a := int64(int32(source.Uint32()) >> source.Intn(32))
		b := int64(int32(source.Uint32()) >> source.Intn(32))
		want, ok := wantedOfDid(op, a, b)
		checkDid(t, op, a, b, want, ok)
	}
}

func TestDidRejectsOtherOps(t *testing.T) {
	for _, op := range []int64{0, 8, 9, -1, -7, 257, 4294967297, math.MinInt64, math.MaxInt64} {
		checkDid(t, op, 0, 0, 0, false)
		checkDid(t, op, 6, 3, 0, false)
		checkDid(t, op, leastWord, -1, 0, false)
	}
}

func TestDidRejectsWhatIsNoWord(t *testing.T) {
	for op := int64(0); op <= 8; op++ {
		for _, n := range notWords() {
			checkDid(t, op, n, 1, 0, false)
			checkDid(t, op, 1, n, 0, false)
			checkDid(t, op, n, 0, 0, false)
			checkDid(t, op, 0, n, 0, false)
			checkDid(t, op, n, n, 0, false)
		}
	}
}

func checkReadWord(t *testing.T, s string, want int64, wantOk bool) {
	t.Helper()
	if got, ok := impl.ReadWord(s); got != want || ok != wantOk {
		t.Errorf("ReadWord(%q) = %d, %v, want %d, %v", s, got, ok, want, wantOk)
	}
}

func TestReadWordExamples(t *testing.T) {
	for _, c := range []struct {
		s    string
		want int64
	}{
		{"0", 0},
		{"7", 7},
		{"-7", -7},
		{"-1", -1},
		{"10", 10},
		{"100", 100},
		{"999999999", 999999999},
		{"1000000000", 1000000000},
		{"-1000000000", -1000000000},
		{"2147483646", greatestWord - 1},
		{"2147483647", greatestWord},
		{"-2147483647", leastWord + 1},
		{"-2147483648", leastWord},
	} {
		checkReadWord(t, c.s, c.want, true)
	}
}

func TestReadWordOfDecimalForms(t *testing.T) {
	for _, n := range edgeWords() {
		checkReadWord(t, strconv.FormatInt(n, 10), n, true)
	}
	for n := int64(-1200); n <= 1200; n++ {
		checkReadWord(t, strconv.FormatInt(n, 10), n, true)
	}
	for _, n := range notWords() {
		checkReadWord(t, strconv.FormatInt(n, 10), 0, false)
	}
}

func TestReadWordRejects(t *testing.T) {
	for _, s := range []string{
		"", "-", "+", "--", "-0", "+0", "00", "-00", "01", "007", "-07", "0000000007", "+7", "+2147483647", "--7", "-+7", "+-7", "7-", "7-7",
		" ", " 7", "7 ", "7\n", "\n7", "7\x00", "\x007", "1 2", "- 7",
		"a", "7a", "a7", "x", "0x7", "0b1", "0o7", "1_000", "1,000", "1.0", "7.", ".7", "1e3", "@0", "/", ":", "7/", "7:",
		"\xff", "7\xff", "\u0667", "\uff17", "\u22127", "NaN", "Inf",
		"2147483648", "-2147483649", "4294967295", "4294967296", "9999999999", "-9999999999",
		"10000000000", "-10000000000", "21474836470", "02147483647", "-02147483648", "00000000000", "18446744073709551616", "18446744073709551623",
		"9223372036854775807", "9223372036854775808", "-9223372036854775808", "-9223372036854775809",
		strings.Repeat("0", 1000), strings.Repeat("9", 1000), "-" + strings.Repeat("9", 1000), strings.Repeat("0", 1000) + "7",
	} {
		checkReadWord(t, s, 0, false)
	}
}

// Every text of up to three of these bytes is either the decimal form of one word or rejected.
func TestReadWordOfShortTexts(t *testing.T) {
	forms := map[string]int64{}
	for n := int64(-99); n <= 999; n++ {
		forms[strconv.FormatInt(n, 10)] = n
	}
	bytes := "0123456789-+ /:a_"
	texts := []string{""}
	for range 3 {
		longer := []string{""}
		for _, s := range texts {
			for _, b := range bytes {
				longer = append(longer, s+string(b))
			}
		}
		texts = longer
	}
	for _, s := range texts {
		want, ok := forms[s]
		checkReadWord(t, s, want, ok)
	}
}
